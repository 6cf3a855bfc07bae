package conf_test

import (
	"slices"
	"testing"

	"impost/conf"
)

// P21.1

func TestRightEdges(t *testing.T) {
	for m, want := range map[int]bool{
		least: false, least + 1: false, -allNodes - 1: false, -allNodes: false, -2: false, -1: false,
		0: false, 1: true, 2: true, 3: true, 63: true, 64: true, 65: true, allNodes - 1: true, allNodes: true,
		allNodes + 1: false, allNodes + 2: false, 255: false, 256: false, 257: false, 1 << 32: false, 1<<32 + 1: false, 1<<40 + 5: false, most: false,
	} {
		if got := conf.Right(m); got != want {
			t.Errorf("Right(%d) is %v", m, got)
		}
	}
}

func TestRightOfAll(t *testing.T) {
	for _, m := range sets() {
		if got := conf.Right(m); got != isRight(m) {
			t.Errorf("Right(%d) is %v", m, got)
		}
	}
	for m := -70000; m < 70000; m++ {
		if got := conf.Right(m); got != (m >= 1 && m <= allNodes) {
			t.Fatalf("Right(%d) is %v", m, got)
		}
	}
}

// ids are all nodes, what is beside them, and what is far outside.
func ids() []int {
	l := []int{least, least + 1, -1 << 40, -1<<32 + 1, -1 << 32, -256, -255, -128, 127, 128, 129, 255, 256, 257, 1 << 16, 1<<31 - 1, 1 << 31, 1<<32 - 1, 1 << 32, 1<<32 + 1, 1 << 40, most - 1, most}
	for id := -70; id <= 70; id++ {
		l = append(l, id)
	}
	return l
}

func TestHasEdges(t *testing.T) {
	for _, c := range []struct {
		m, id int
		want  bool
	}{
		{1, 0, true}, {1, 1, false}, {1, topNode, false}, {1, -1, false}, {1, topNode + 1, false},
		{64, topNode, true}, {64, topNode - 1, false}, {64, 0, false}, {64, topNode + 1, false},
		{allNodes, 0, true}, {allNodes, topNode, true}, {allNodes, -1, false}, {allNodes, topNode + 1, false}, {allNodes, least, false}, {allNodes, most, false},
		{0, 0, false}, {0, topNode, false}, {0, -1, false}, {0, topNode + 1, false}, {0, most, false},
		{128, topNode + 1, false}, {128, 0, false}, {128, topNode, false}, {129, 0, true}, {192, topNode, true}, {192, topNode + 1, false}, {1 << 40, 40, false}, {1<<40 | 2, 1, true}, {most, topNode, true}, {most, 62, false},
		{-1, 0, true}, {-1, topNode, true}, {-1, -1, false}, {-1, topNode + 1, false}, {-1, 63, false}, {-1, 64, false}, {-1, most, false}, {-1, least, false},
		{-2, 0, false}, {-2, 1, true}, {-128, 0, false}, {-128, topNode, false}, {-128, topNode + 1, false}, {-64, topNode, true}, {-65, topNode, false}, {least, 0, false}, {least, topNode, false}, {least, 63, false}, {least + 1, 0, true},
	} {
		if got := conf.Has(c.m, c.id); got != c.want {
			t.Errorf("Has(%d, %d) is %v", c.m, c.id, got)
		}
	}
}

// TestHasAll asks each set for each id.
func TestHasAll(t *testing.T) {
	for _, m := range sets() {
		for _, id := range ids() {
			if got := conf.Has(m, id); got != slices.Contains(members(m), id) {
				t.Errorf("Has(%d, %d) is %v", m, id, got)
			}
		}
	}
}

func listIs(t *testing.T, m int, want ...int) {
	t.Helper()
	if l := conf.List(m); !slices.Equal(l, want) {
		t.Errorf("List(%d) is %v, not %v", m, l, want)
	}
	if n := conf.Count(m); n != len(want) {
		t.Errorf("Count(%d) is %d, not %d", m, n, len(want))
	}
}

func TestCountAndListEdges(t *testing.T) {
	listIs(t, 0)
	for id := range topNode + 1 {
		listIs(t, 1<<id, id)
		listIs(t, 1<<id|128, id)
		listIs(t, 1<<id-128, id)
	}
	listIs(t, 3, 0, 1)
	listIs(t, 65, 0, 6)
	listIs(t, 85, 0, 2, 4, 6)
	listIs(t, 42, 1, 3, 5)
	listIs(t, allNodes-1, 1, 2, 3, 4, 5, 6)
	listIs(t, allNodes-64, 0, 1, 2, 3, 4, 5)
	listIs(t, allNodes, 0, 1, 2, 3, 4, 5, 6)
	listIs(t, allNodes+1)
	listIs(t, 255, 0, 1, 2, 3, 4, 5, 6)
	listIs(t, 1<<40)
	listIs(t, 1<<62|9, 0, 3)
	listIs(t, most, 0, 1, 2, 3, 4, 5, 6)
	listIs(t, -1, 0, 1, 2, 3, 4, 5, 6)
	listIs(t, -2, 1, 2, 3, 4, 5, 6)
	listIs(t, -65, 0, 1, 2, 3, 4, 5)
	listIs(t, -128)
	listIs(t, least)
	listIs(t, least+1, 0)
}

func TestCountAndListOfAll(t *testing.T) {
	for _, m := range sets() {
		listIs(t, m, members(m)...)
		for k, id := range conf.List(m) {
			if !conf.Has(m, id) || k > 0 && conf.List(m)[k-1] >= id {
				t.Errorf("List(%d) is %v", m, conf.List(m))
			}
		}
	}
}
