package conf_test

import (
	"math/bits"
	"testing"

	"impost/conf"
)

// P21.2

func mostIs(t *testing.T, m, yes int, want bool) {
	t.Helper()
	if got := conf.Most(m, yes); got != want {
		t.Errorf("Most(%d, %d) is %v", m, yes, got)
	}
}

func TestMostEdges(t *testing.T) {
	for _, c := range []struct {
		m, yes int
		want   bool
	}{
		// of one
		{1, 0, false}, {1, 1, true}, {1, 2, false}, {1, 126, false}, {64, 64, true}, {64, 63, false},
		// of an even number: none, one less than half, half, one more, all
		{3, 0, false}, {3, 1, false}, {3, 2, false}, {3, 3, true},
		{15, 0, false}, {15, 8, false}, {15, 5, false}, {15, 12, false}, {15, 7, true}, {15, 14, true}, {15, 15, true},
		{126, 14, false}, {126, 112, false}, {126, 30, true}, {126, 126, true},
		// of an odd number: just above half, and just below
		{7, 4, false}, {7, 3, true}, {7, 5, true}, {7, 7, true}, {31, 3, false}, {31, 7, true}, {31, 28, true},
		{allNodes, 7, false}, {allNodes, 112, false}, {allNodes, 15, true}, {allNodes, 120, true}, {allNodes, allNodes, true},
		// such as don't belong
		{7, 120, false}, {7, 121, false}, {7, 123, true}, {3, 124, false}, {3, 125, false}, {85, 42, false}, {85, 47, false}, {85, 63, true}, {2, -2, true}, {2, -3, false}, {7, -1, true}, {7, -8, false}, {7, -7, false}, {7, -5, true},
		{7, 1<<40 | 4, false}, {7, 1<<40 | 6, true}, {7, 128, false}, {7, most, true}, {7, least, false}, {7, least + 3, true},
		// of a set that isn't right
		{0, 0, false}, {0, 1, false}, {0, allNodes, false}, {0, -1, false}, {128, 128, false}, {128, 255, false}, {129, 1, false}, {129, 129, false}, {255, 255, false}, {255, 127, false},
		{1<<40 | 1, 1, false}, {1<<40 | 1, 1<<40 | 1, false}, {most, most, false}, {most, 127, false},
		{-1, -1, false}, {-1, 127, false}, {-127, 1, false}, {least, least, false}, {least, -1, false}, {least + 1, 1, false},
	} {
		mostIs(t, c.m, c.yes, c.want)
	}
}

// TestMostOfAll asks of each set with each, right ones and others.
func TestMostOfAll(t *testing.T) {
	all := sets()
	for _, m := range all {
		for _, yes := range all {
			mostIs(t, m, yes, isMost(m, yes))
		}
	}
}

// TestMostBySize: it hangs on how many of m are in yes alone, and not on which.
func TestMostBySize(t *testing.T) {
	enough := []int{0, 1, 2, 2, 3, 3, 4, 4}
	for m := 1; m <= allNodes; m++ {
		for yes := range allNodes + 1 {
			mostIs(t, m, yes, bits.OnesCount(uint(m&yes)) >= enough[bits.OnesCount(uint(m))])
		}
	}
}

// TestOthersDoNotCount: who is in yes, and doesn't belong, makes no difference.
func TestOthersDoNotCount(t *testing.T) {
	for m := 1; m <= allNodes; m++ {
		for yes := range allNodes + 1 {
			want := conf.Most(m, yes&m)
			for _, other := range []int{yes, yes | allNodes&^m, yes | 128, yes | 1<<40, yes | ^allNodes, yes | ^m, yes | -1<<62} {
				mostIs(t, m, other, want)
			}
		}
	}
}
