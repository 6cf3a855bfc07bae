package raft_test

import (
	"testing"

	"impost/api"
)

// P22.6

// TestSureByMost: half of the nodes are not enough, one more is; of each number of nodes.
func TestSureByMost(t *testing.T) {
	for n := 2; n <= topNode+1; n++ {
		var by []int
		for f := 1; f < n; f++ {
			by = append(by, f)
		}
		x := leading(t, fresh(1<<n-1), by...)
		for f := 1; f < n; f++ {
			want := 0
			// the core and f - 1 others have it
			if 2*f > n {
				want = 1
			}
			x.is(leads, 0, want, 1, beats, 1<<n-1)
			x.take(ack(f, 0, 1, true, 1))
		}
		x.is(leads, 0, 1, 1, beats, 1<<n-1)
	}
}

// TestTheGreatestThatIsSure: as far as most have it, in one step.
func TestTheGreatestThatIsSure(t *testing.T) {
	x := leading(t, fresh(31), 1, 2)
	x.propose("a", "b", "c", "d", "e")
	for _, c := range []struct{ from, index, want int }{{1, 6, 0}, {2, 3, 3}, {3, 2, 3}, {4, 5, 5}, {3, 6, 6}, {2, 6, 6}} {
		x.take(ack(c.from, 0, 1, true, c.index))
		x.is(leads, 0, c.want, 6, beats, 31)
	}
	// each of the others has another one
	x = leading(t, fresh(allNodes), 1, 2, 3)
	x.propose(make([]string, 9)...)
	for f, index := range []int{1: 2, 2: 4, 3: 6, 4: 8, 5: 9, 6: 10} {
		if f > 0 {
			x.take(ack(f, 0, 1, true, index))
		}
	}
	x.is(leads, 0, 8, 10, beats, allNodes)
}

// TestEntriesOfElderTerms are sure with one of the core's own alone.
func TestEntriesOfElderTerms(t *testing.T) {
	x := leading(t, logged(4, en(2, "a"), en(4, "b"), en(4, "c")), 1)
	for index := 1; index <= 3; index++ {
		x.take(ack(1, 0, 5, true, index), ack(2, 0, 5, true, index))
		x.is(leads, 0, 0, 4, beats, 7)
	}
	x.take(ack(2, 0, 5, true, 4))
	x.is(leads, 0, 4, 4, beats, 7)
	// behind a snapshot likewise
	x = leading(t, based(4, 9, 4, "s", en(4, "a")), 1)
	x.take(ack(1, 0, 5, true, 10), ack(2, 0, 5, true, 10))
	x.is(leads, 0, 9, 11, beats, 7)
	x.take(ack(1, 0, 5, true, 11))
	x.is(leads, 0, 11, 11, beats, 7)
	// with no room for one of its own nothing comes to be sure
	h := logged(4, append(run(longLog-1, 3), of(4, 3))...)
	x = leading(t, h, 1)
	x.take(ack(1, 0, 5, true, longLog), ack(2, 0, 5, true, longLog))
	x.is(leads, 0, 0, longLog, beats, 3)
}

// TestSureByThoseThatBelongNow: the last entry that says who belongs counts, ahead of being sure itself.
func TestSureByThoseThatBelongNow(t *testing.T) {
	x := leading(t, logged(1, of(1, 31)), 1, 2)
	x.take(ack(1, 0, 2, true, 2))
	x.is(leads, 0, 0, 2, beats, 31)
	x.take(ack(5, 0, 2, true, 2), ack(6, 0, 2, true, 2))
	x.is(leads, 0, 0, 2, beats, 31)
	x.take(ack(4, 0, 2, true, 2))
	x.is(leads, 0, 2, 2, beats, 31)
	// from two to one: its own is enough
	x = leading(t, logged(1, of(1, 1)))
	x.is(leads, 0, 2, 2, beats, 1)
	h := fresh(3)
	x = leading(t, h, 1)
	x.take(ack(1, 0, 1, true, 1))
	x.propose("a", "b")
	x.is(leads, 0, 1, 3, beats, 3)
	if n, ok := x.change(1); n != 4 || !ok {
		t.Error(n, ok)
	}
	x.is(leads, 0, 4, 4, beats, 1)
}

// TestWhoGoesStepsDown when it is sure, and not ahead of it.
func TestWhoGoesStepsDown(t *testing.T) {
	x := leading(t, fresh(), 1)
	x.take(ack(1, 0, 1, true, 1))
	x.propose("a")
	x.change(6)
	x.propose("b", "c")
	x.is(leads, 0, 1, 5, beats, 6)
	x.tick(0)
	x.take(ack(1, 0, 1, true, 2), ack(2, 0, 1, true, 2))
	x.is(leads, 0, 2, 5, 2, 6)
	x.take(ack(1, 0, 1, true, 3))
	x.is(leads, 0, 2, 5, 2, 6)
	x.out()
	// the one that makes it sure may make later ones sure as well; nothing is sent any more
	x.take(ack(2, 0, 1, true, 3))
	x.is(follows, -1, 3, 5, 10, 6)
	x.says()
	x.voted(1, 0)
	still(x, ack(2, 0, 1, true, 5))
	if n, ok := x.propose("d"); n != 0 || ok {
		t.Error(n, ok)
	}
	if n, ok := x.change(7); n != 0 || ok {
		t.Error(n, ok)
	}
	x = leading(t, fresh(), 1)
	x.take(ack(1, 0, 1, true, 1))
	x.change(6)
	x.propose("b", "c")
	x.take(ack(1, 0, 1, true, 4), ack(2, 0, 1, true, 3))
	x.is(follows, -1, 3, 4, 10, 6)
	// what it waits then is what it had drawn last
	h := fresh()
	y := begin(t, 0, h, 0)
	y.ticks(9, 0)
	y.tick(8)
	y.take(vote(1, 0, 1, true), ack(1, 0, 1, true, 1))
	y.change(6)
	y.ticks(7, 3)
	y.take(ack(1, 0, 1, true, 2), ack(2, 0, 1, true, 2))
	y.is(follows, -1, 2, 2, 18, 6)
}

// TestWhoIsSureStays: another one that goes, or comes, ends no lead.
func TestWhoIsSureStays(t *testing.T) {
	x := leading(t, fresh(), 1)
	x.take(ack(1, 0, 1, true, 1))
	for k, members := range []int{15, 7, 3, 1, 9, 1} {
		if n, ok := x.change(members); n != k+2 || !ok {
			t.Error(n, ok)
		}
		for _, f := range listed(members) {
			if f != 0 {
				x.take(ack(f, 0, 1, true, k+2))
			}
		}
		x.is(leads, 0, k+2, k+2, beats, members)
	}
}

// TestNothingIsSureOfItself: only what a leader looks at, and what it says, moves Commit.
func TestNothingIsSureOfItself(t *testing.T) {
	x := begin(t, 0, logged(3, abc()...), 0)
	x.ticks(100, 0)
	x.is(stands, -1, 0, 3, 10, 7)
	x.take(ack(1, 0, 13, true, 3), ack(2, 0, 13, true, 3), ask(1, 0, 13, 3, 2))
	if v := x.c.View(); v.Commit != 0 {
		t.Error(v)
	}
	h := logged(3, abc()...)
	h.Members = 1
	x = begin(t, 0, h, 0)
	x.ticks(9, 0)
	x.is(follows, -1, 0, 3, 1, 1)
}

// TestAcksOfOneSnapshot reach over Base.
func TestAcksOfOneSnapshot(t *testing.T) {
	x := leading(t, fresh(), 1)
	x.take(ack(1, 0, 1, true, 1))
	x.propose("a", "b", "c")
	x.take(ack(1, 0, 1, true, 3))
	if e := x.compact(3, "s"); e != api.OK {
		t.Error(e)
	}
	x.take(ack(2, 0, 1, true, 3))
	x.is(leads, 0, 3, 4, beats, 7)
	x.take(ack(2, 0, 1, true, 4))
	x.is(leads, 0, 4, 4, beats, 7)
}
