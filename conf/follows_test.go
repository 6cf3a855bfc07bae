package conf_test

import (
	"math/rand"
	"testing"

	"impost/conf"
)

// P21.5

// majorities are, for each set of nodes, all sets that are Most of it: such as have nodes that don't belong too.
func majorities() [][]int {
	out := make([][]int, allNodes+1)
	for m := range out {
		for yes := range allNodes + 1 {
			if conf.Most(m, yes) {
				out[m] = append(out[m], yes)
			}
		}
	}
	return out
}

// share tells whether each a has a node in common with each b.
func share(as, bs []int) bool {
	for _, a := range as {
		for _, b := range bs {
			if a&b&allNodes == 0 {
				return false
			}
		}
	}
	return true
}

// TestMostMeetMost: of each set with itself, and with each that it may become.
func TestMostMeetMost(t *testing.T) {
	by := majorities()
	pairs := 0
	for m := 1; m <= allNodes; m++ {
		if len(by[m]) == 0 {
			t.Fatalf("nobody is most of %d", m)
		}
		for n := 1; n <= allNodes; n++ {
			if m != n && !conf.May(m, n) {
				continue
			}
			pairs++
			if !share(by[m], by[n]) {
				t.Errorf("most of %d and most of %d have no node in common", m, n)
			}
		}
	}
	// itself, and one for each node's bit but the way to nobody
	if want := allNodes + allNodes*(topNode+1) - (topNode + 1); pairs != want {
		t.Errorf("%d pairs, not %d", pairs, want)
	}
}

// TestTheNodeInCommonBelongs: it is one of both sets, whatever else the two have in them.
func TestTheNodeInCommonBelongs(t *testing.T) {
	draw := rand.New(rand.NewSource(212))
	met := 0
	for range 200000 {
		m := 1 + draw.Intn(allNodes)
		n := m
		if draw.Intn(3) > 0 {
			n = m ^ 1<<draw.Intn(topNode+1)
		}
		a, b := int(draw.Uint64()), int(draw.Uint64())
		if m != n && !conf.May(m, n) || !conf.Most(m, a) || !conf.Most(n, b) {
			continue
		}
		met++
		if conf.Count(a&b&m&n) == 0 {
			t.Fatalf("%d of %d and %d of %d have no node in common", a, m, b, n)
		}
	}
	if met < 10000 {
		t.Error(met)
	}
}

// TestMayIsNeeded: where two sets may do without a node in common, neither may become the other; and there are such pairs.
func TestMayIsNeeded(t *testing.T) {
	by := majorities()
	apart := 0
	for m := 1; m <= allNodes; m++ {
		for n := 1; n <= allNodes; n++ {
			if share(by[m], by[n]) {
				continue
			}
			apart++
			if m == n || conf.May(m, n) || conf.May(n, m) {
				t.Errorf("%d may become %d", m, n)
			}
		}
	}
	// one node for another, two more, three more, two for two others
	if apart == 0 || share(by[1], by[2]) || share(by[1], by[7]) || share(by[3], by[31]) || share(by[3], by[12]) {
		t.Error(apart)
	}
}

// TestOneSideAtMost: where a group falls into two parts, one of them at most is most of it; in a group of an odd number just one.
func TestOneSideAtMost(t *testing.T) {
	for m := 1; m <= allNodes; m++ {
		for a := range allNodes + 1 {
			one, other := conf.Most(m, a), conf.Most(m, ^a)
			if one && other || conf.Count(m)%2 == 1 && one == other {
				t.Errorf("%d and all others of %d: %v, %v", a, m, one, other)
			}
		}
		if !conf.Most(m, m) || conf.Most(m, 0) || conf.Most(m, ^m) {
			t.Errorf("all and none of %d", m)
		}
	}
}
