package conf_test

import (
	"testing"

	"impost/conf"
)

// P21.3

func mayIs(t *testing.T, m, n int, want bool) {
	t.Helper()
	if got := conf.May(m, n); got != want {
		t.Errorf("May(%d, %d) is %v", m, n, got)
	}
}

func TestMayEdges(t *testing.T) {
	for _, c := range []struct {
		m, n int
		want bool
	}{
		// the same
		{1, 1, false}, {7, 7, false}, {64, 64, false}, {allNodes, allNodes, false},
		// one bit, the first, one within, the last
		{1, 3, true}, {2, 3, true}, {7, 15, true}, {1, 65, true}, {64, 65, true}, {63, allNodes, true}, {126, allNodes, true}, {119, allNodes, true},
		// two bits: one for another, two more
		{1, 2, false}, {1, 64, false}, {3, 5, false}, {7, 11, false}, {1, 7, false}, {3, 15, false}, {31, allNodes, false}, {62, 63 | 64, false},
		// more
		{1, 126, false}, {85, 42, false}, {1, allNodes, false}, {3, 4, false},
		// a bit above those of nodes
		{1, 129, false}, {7, 135, false}, {7, 131, false}, {allNodes, 255, false}, {1, 1<<40 | 1, false}, {1, 1<<40 | 3, false}, {3, 1<<62 | 1, false}, {1, least + 1, false}, {1, least + 3, false},
		// one that isn't right
		{1, 0, false}, {2, 0, false}, {64, 0, false}, {64, 128, false}, {126, -2, false}, {allNodes, -1, false}, {allNodes, -2, false}, {126, -1, false}, {1, -127, false}, {most, allNodes, false},
		// neither is
		{0, 0, false}, {0, 128, false}, {128, 129, false}, {128, 128, false}, {255, 254, false}, {-1, -2, false}, {-1, -1, false}, {least, least + 1, false}, {most, most - 1, false}, {-1, 0, false}, {1 << 40, 1<<40 | 1, false},
	} {
		mayIs(t, c.m, c.n, c.want)
		mayIs(t, c.n, c.m, c.want)
	}
}

// TestMayOfAll asks of each set with each, right ones and others.
func TestMayOfAll(t *testing.T) {
	all := sets()
	for _, m := range all {
		for _, n := range all {
			mayIs(t, m, n, mayBecome(m, n))
		}
	}
}

// TestMayFromEach: a set may become as many as there are nodes, one less where it has but one: those with the bit of one turned.
func TestMayFromEach(t *testing.T) {
	for m := 1; m <= allNodes; m++ {
		want := 0
		for id := range topNode + 1 {
			n := m ^ 1<<id
			mayIs(t, m, n, n != 0)
			if n != 0 {
				want++
			}
		}
		got := 0
		for n := -1000; n < 1000; n++ {
			if conf.May(m, n) {
				got++
			}
		}
		if got != want || want < topNode {
			t.Errorf("%d may become %d others, not %d", m, got, want)
		}
		for bit := topNode + 1; bit < 64; bit++ {
			mayIs(t, m, m^1<<bit, false)
			mayIs(t, m^1<<bit, m, false)
			mayIs(t, m^1<<bit, m^1<<bit^1, false)
		}
	}
}

// TestMayReachesAll: step by step each set comes of each.
func TestMayReachesAll(t *testing.T) {
	for from := 1; from <= allNodes; from++ {
		for to := 1; to <= allNodes; to++ {
			m, steps := from, 0
			// who is missing comes ahead of who goes, so that somebody always belongs
			for _, turn := range append(members(to&^from), members(from&^to)...) {
				n := m ^ 1<<turn
				mayIs(t, m, n, true)
				m = n
				steps++
			}
			if m != to || steps != len(members(from^to)) {
				t.Fatalf("from %d to %d: %d by %d steps", from, to, m, steps)
			}
		}
	}
}
