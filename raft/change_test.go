package raft_test

import (
	"testing"

	"impost/api"
)

// P22.8

// changes asks what Change answers; where it refuses, nothing happens.
func (x *core) changes(n int, ok bool, members int) {
	x.t.Helper()
	h, v := x.c.Hard(), x.c.View()
	if k, is := x.change(members); k != n || is != ok {
		x.fail("Change(%d) is %d, %v, must be %d, %v", members, k, is, n, ok)
	}
	if !ok {
		x.says()
		x.has(h)
		if x.c.View() != v {
			x.fail("is %+v, must be %+v", x.c.View(), v)
		}
	}
}

func TestChange(t *testing.T) {
	x := agreed(t, fresh(), 1)
	x.tick(0)
	x.changes(2, true, 15)
	x.is(leads, 0, 1, 2, 2, 15)
	x.logs(en(1, ""), of(1, 15))
	// who comes is sent the entry that says so; Next of the others is as it was
	x.says(appends(0, 1, 1, 1, 1, 1, of(1, 15)), appends(0, 2, 1, 0, 0, 1, en(1, ""), of(1, 15)), appends(0, 3, 1, 1, 1, 1, of(1, 15)))
	x.take(ack(1, 0, 1, true, 2))
	x.is(leads, 0, 1, 2, 2, 15)
	x.take(ack(3, 0, 1, true, 2))
	x.is(leads, 0, 2, 2, 2, 15)
	x.out()
	// who goes is sent nothing
	x.changes(3, true, 13)
	x.says(appends(0, 2, 1, 0, 0, 2, en(1, ""), of(1, 15), of(1, 13)), appends(0, 3, 1, 2, 1, 2, of(1, 13)))
	x.is(leads, 0, 2, 3, 2, 13)
	// an only one takes another: its own is enough no more
	x = agreed(t, fresh(1))
	x.changes(2, true, 65)
	x.is(leads, 0, 1, 2, beats, 65)
	x.says(appends(0, topNode, 1, 1, 1, 1, of(1, 65)))
	x.take(ack(topNode, 0, 1, true, 2))
	x.is(leads, 0, 2, 2, beats, 65)
}

// TestWhatMayBeChanged: one node comes, or one goes.
func TestWhatMayBeChanged(t *testing.T) {
	for _, was := range []int{1, 3, 5, 7, 21, 63, allNodes} {
		for n := -2; n <= 2*allNodes+3; n++ {
			x := agreed(t, fresh(was), listed(was)[1:]...)
			a, b := listed(was), listed(max(n, 0))
			differ := 0
			for f := 0; f < 9; f++ {
				if contains(a, f) != contains(b, f) {
					differ++
				}
			}
			if ok := n > 0 && n <= allNodes && differ == 1; ok {
				x.changes(2, true, n)
				v := x.c.View()
				if v.Members != n {
					x.fail("is %+v", v)
				}
			} else {
				x.changes(0, false, n)
			}
		}
		x := agreed(t, fresh(was), listed(was)[1:]...)
		for _, n := range []int{least, least + was, -1 << 32, -was, was + 128, was | 1<<40, 1<<32 | was ^ 2, most, most - 1} {
			x.changes(0, false, n)
		}
	}
}

func contains(l []int, n int) bool {
	for _, k := range l {
		if k == n {
			return true
		}
	}
	return false
}

// TestOneChangeAtATime: the one ahead must be sure.
func TestOneChangeAtATime(t *testing.T) {
	x := agreed(t, fresh(), 1)
	x.proposes(2, true, "a")
	x.changes(3, true, 15)
	x.proposes(4, true, "b")
	x.take(ack(1, 0, 1, true, 2), ack(2, 0, 1, true, 2), ack(3, 0, 1, true, 2))
	x.is(leads, 0, 2, 4, beats, 15)
	x.out()
	for _, n := range []int{7, 31, 14, 15, 11} {
		x.changes(0, false, n)
	}
	x.take(ack(1, 0, 1, true, 3), ack(2, 0, 1, true, 3))
	x.is(leads, 0, 3, 4, beats, 15)
	x.out()
	x.changes(5, true, 7)
	// one of an elder Term is on its way still
	x = leading(t, logged(1, of(1, 15)), 1, 2)
	x.out()
	x.changes(0, false, 7)
	x.take(ack(1, 0, 2, true, 2))
	x.out()
	x.changes(0, false, 7)
	x.take(ack(2, 0, 2, true, 2))
	x.out()
	x.changes(3, true, 7)
	// the snapshot's members are sure
	x = agreed(t, based(1, 5, 1, "s"), 1)
	x.changes(7, true, 15)
}

// TestChangeAheadOfItsOwnTerm: an entry of its Term must be sure.
func TestChangeAheadOfItsOwnTerm(t *testing.T) {
	for _, h := range []api.Hard{fresh(), logged(1, en(1, "a")), based(4, 5, 4, "s"), based(4, 5, 3, "s", en(4, "a"))} {
		x := leading(t, h, 1)
		x.out()
		last := x.c.View().Last
		x.changes(0, false, 3)
		x.changes(0, false, 15)
		x.take(ack(1, 0, h.Term+1, true, last-1))
		x.out()
		x.changes(0, false, 3)
		x.take(ack(1, 0, h.Term+1, true, last))
		x.changes(last+1, true, 3)
	}
	// the snapshot's own term counts
	x := agreed(t, logged(1, en(1, "a")), 1)
	x.compacts(api.OK, 2, "s")
	x.changes(3, true, 15)
}

// TestChangeOfItself: the core may take itself out; it leads on till that is sure.
func TestChangeOfItself(t *testing.T) {
	x := agreed(t, fresh(), 1, 2)
	x.changes(2, true, 6)
	x.is(leads, 0, 1, 2, beats, 6)
	x.says(appends(0, 1, 1, 1, 1, 1, of(1, 6)), appends(0, 2, 1, 1, 1, 1, of(1, 6)))
	x.ticks(3, 0)
	x.says(appends(0, 1, 1, 1, 1, 1, of(1, 6)), appends(0, 2, 1, 1, 1, 1, of(1, 6)))
	x.changes(0, false, 7)
	x.take(ack(1, 0, 1, true, 2))
	x.is(leads, 0, 1, 2, beats, 6)
	x.take(ack(2, 0, 1, true, 2))
	x.is(follows, -1, 2, 2, 10, 6)
	// the only one doesn't go
	agreed(t, fresh(1)).changes(0, false, 0)
}

func TestWhoIsAskedToChange(t *testing.T) {
	for _, x := range roles(t)[:3] {
		for _, n := range []int{0, 3, 6, 7, 15} {
			x.changes(0, false, n)
		}
	}
}

// TestChangeOfALongLog: there is room for one below Long.
func TestChangeOfALongLog(t *testing.T) {
	for had := longAsked - 3; had <= longAsked+1; had++ {
		x := agreed(t, logged(1, run(had, 1)...), 1)
		if had+1 < longAsked {
			x.changes(had+2, true, 15)
		} else {
			x.changes(0, false, 15)
		}
		x = agreed(t, based(1, 9, 1, "s", run(had, 1)...), 1)
		if had+1 < longAsked {
			x.changes(had+11, true, 3)
		} else {
			x.changes(0, false, 3)
		}
	}
	x := agreed(t, logged(1, run(longAsked, 1)...), 1)
	x.changes(0, false, 15)
	x.compacts(api.OK, 1, "s")
	x.changes(0, false, 15)
	x.compacts(api.OK, 2, "s")
	x.changes(longAsked+2, true, 15)
}

func TestChangeAtTheLastNumber(t *testing.T) {
	x := agreed(t, based(1, topIndex-2, 1, "s"), 1)
	x.changes(topIndex, true, 15)
	x.says(appends(0, 1, 2, topIndex-1, 2, topIndex-1, of(2, 15)), appends(0, 2, 2, topIndex-2, 1, topIndex-1, en(2, ""), of(2, 15)), appends(0, 3, 2, topIndex-1, 2, topIndex-1, of(2, 15)))
	x = agreed(t, based(1, topIndex-1, 1, "s"), 1)
	x.changes(0, false, 15)
	// the last number counts, sure or not
	x = agreed(t, based(1, topIndex-2, 1, "s"), 1)
	x.proposes(topIndex, true, "a")
	x.is(leads, 0, topIndex-1, topIndex, beats, 7)
	x.out()
	x.changes(0, false, 15)
}

// TestWhoComesAgain: nothing is known of a node that was away; what is known of those that stay is.
func TestWhoComesAgain(t *testing.T) {
	x := agreed(t, based(1, 3, 1, snapshot(1300), en(1, "d")), 1, 2)
	x.is(leads, 0, 5, 5, beats, 7)
	x.changes(6, true, 3)
	x.take(ack(1, 0, 2, true, 6))
	x.out()
	x.changes(7, true, 7)
	x.says(appends(0, 1, 2, 6, 2, 6, of(2, 7)), appends(0, 2, 2, 6, 2, 6, of(2, 7)))
	// its Match is 0: it doesn't count as having 5 any more, and Next may go below
	x.take(ack(2, 0, 2, false, 4))
	x.says(appends(0, 2, 2, 4, 1, 6, en(2, ""), of(2, 3), of(2, 7)))
	x.take(ack(2, 0, 2, false, 0))
	x.says(install(0, 2, 2, 3, 1, 7, 0, 1300, snapshot(1300)[:600]))
	x.take(more(2, 0, 2, 3, 600))
	x.out()
	// and its Off is 0
	x.take(ack(1, 0, 2, true, 7))
	x.is(leads, 0, 7, 7, beats, 7)
	x.changes(8, true, 3)
	x.take(ack(1, 0, 2, true, 8))
	x.out()
	x.changes(9, true, 7)
	x.take(ack(2, 0, 2, false, 0))
	l := x.out()
	if m := l[len(l)-1]; m.Kind != isInstall || m.Off != 0 {
		x.fail("sent %s", brief(m))
	}
}
