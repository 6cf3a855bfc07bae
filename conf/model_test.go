package conf_test

import (
	"math"
	"slices"
	"testing"

	"impost/api"
	"impost/conf"
)

// The tests reckon with numbers of their own, so that a limit that was changed is noticed.
const (
	allNodes = 127
	topNode  = 6
	topIndex = 1 << 40
	longLog  = 200
	least    = math.MinInt
	most     = math.MaxInt
)

func TestLimits(t *testing.T) {
	if api.MaxNodes != topNode+1 || 1<<api.MaxNodes-1 != allNodes || api.MaxIndex != topIndex || api.MaxLog != longLog {
		t.Error(api.MaxNodes, api.MaxIndex, api.MaxLog)
	}
}

// members are the nodes of m. They are found by halving, rounded down, so that a number below 0 has ones without an end ahead of it.
func members(m int) []int {
	l := []int{}
	for id := range topNode + 1 {
		odd := m%2 != 0
		if odd {
			l = append(l, id)
			m--
		}
		m /= 2
	}
	return l
}

// isRight tells whether m's nodes alone make up m, and there are any.
func isRight(m int) bool {
	value := []int{1, 2, 4, 8, 16, 32, 64}
	for _, id := range members(m) {
		m -= value[id]
		if m == 0 {
			return true
		}
	}
	return false
}

// common are the nodes of both.
func common(m, n int) []int {
	return slices.DeleteFunc(members(m), func(id int) bool { return !slices.Contains(members(n), id) })
}

func isMost(m, yes int) bool {
	with := len(common(m, yes))
	without := len(members(m)) - with
	return isRight(m) && with > without
}

// mayBecome tells whether n is m with a node more or with one less.
func mayBecome(m, n int) bool {
	both := len(common(m, n))
	more, less := len(members(n))-both, len(members(m))-both
	return isRight(m) && isRight(n) && (more == 1 && less == 0 || more == 0 && less == 1)
}

// of goes through the log from its beginning on.
func of(h api.Hard) (m, at int) {
	m, at = h.Members, h.Base
	number := h.Base
	for _, e := range h.Log {
		number++
		if e.Members != 0 {
			m, at = e.Members, number
		}
	}
	return m, at
}

// plain are all sets of nodes, the empty one too.
func plain() []int {
	var l []int
	for m := range allNodes + 1 {
		l = append(l, m)
	}
	return l
}

// odd are numbers that are no right sets: with bits above those of nodes, and below 0.
func odd() []int {
	l := []int{-1, -2, -3, -64, -65, -126, -127, -128, -129, -255, -256, least + 1, most, most - 1, most - 127, 0xff80, 999}
	for _, high := range []int{1 << 7, 1 << 8, 3 << 7, 1 << 14, 1 << 31, 1 << 32, 1 << 39, 1 << 40, 1 << 62, least, ^allNodes} {
		for _, low := range []int{0, 1, 2, 5, 64, 65, 85, 126, allNodes} {
			l = append(l, high|low)
		}
	}
	return l
}

// sets are all of both.
func sets() []int { return append(plain(), odd()...) }

// fromIds is the set of these nodes.
func fromIds(l ...int) int {
	m := 0
	for _, id := range l {
		m |= 1 << id
	}
	return m
}

// TestModel: the model itself is such as the tests that go by it take it for.
func TestModel(t *testing.T) {
	right := 0
	for _, m := range sets() {
		if isRight(m) {
			right++
		}
		if got := fromIds(members(m)...); got != m&allNodes {
			t.Errorf("%d has %v", m, members(m))
		}
	}
	if right != allNodes || len(members(0)) != 0 || len(members(-1)) != topNode+1 || len(members(least)) != 0 {
		t.Error(right)
	}
}

// TestRuns is the chapter's table.
func TestRuns(t *testing.T) {
	if n, l := conf.Count(5), conf.List(5); n != 2 || !slices.Equal(l, []int{0, 2}) {
		t.Error(n, l)
	}
	for _, c := range []struct {
		m, yes int
		want   bool
	}{{7, 3, true}, {7, 4, false}, {3, 1, false}, {1, 1, true}} {
		mostIs(t, c.m, c.yes, c.want)
	}
	for _, c := range []struct {
		m, n int
		want bool
	}{{7, 3, true}, {7, 7, false}, {1, 0, false}, {3, 4, false}} {
		mayIs(t, c.m, c.n, c.want)
	}
}
