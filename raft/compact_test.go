package raft_test

import (
	"strings"
	"testing"

	"impost/api"
)

// P22.9

// compacts asks what Compact answers; what is to be seen stays, and nothing is sent.
func (x *core) compacts(want api.Errno, index int, snap string) {
	x.t.Helper()
	h, v := x.c.Hard(), x.c.View()
	if e := x.compact(index, snap); e != want {
		x.fail("Compact(%d, %s) is %d, must be %d", index, brief(snap), e, want)
	}
	if want != api.OK {
		x.has(h)
	}
	x.says()
	w := x.c.View()
	if w != v {
		x.fail("is %+v, must be %+v", w, v)
	}
}

func TestCompact(t *testing.T) {
	x := agreed(t, based(2, 5, 2, "old", en(2, "f"), of(2, 15), en(2, "h")), 1, 2)
	x.is(leads, 0, 9, 9, beats, 15)
	x.proposes(10, true, "i")
	x.out()
	for _, index := range []int{least, -1, 0, 1, 4, 5, 10, 11, topIndex, topIndex + 1, most} {
		x.compacts(api.ErrArg, index, "new")
		x.compacts(api.ErrArg, index, "")
	}
	for _, snap := range []string{"", text(longImage + 1), text(2 * longImage)} {
		for index := 5; index <= 10; index++ {
			x.compacts(api.ErrArg, index, snap)
		}
	}
	x.compacts(api.OK, 6, "n")
	x.has(api.Hard{Term: 3, Vote: 0, Base: 6, BaseTerm: 2, Members: 7, Snap: "n", Log: []api.Entry{of(2, 15), en(2, "h"), en(3, ""), en(3, "i")}})
	x.compacts(api.ErrArg, 6, "m")
	x.compacts(api.OK, 7, text(longImage))
	x.has(api.Hard{Term: 3, Vote: 0, Base: 7, BaseTerm: 2, Members: 15, Snap: text(longImage), Log: []api.Entry{en(2, "h"), en(3, ""), en(3, "i")}})
	x.compacts(api.OK, 9, "o")
	x.has(api.Hard{Term: 3, Vote: 0, Base: 9, BaseTerm: 3, Members: 15, Snap: "o", Log: []api.Entry{en(3, "i")}})
	x.compacts(api.ErrArg, 10, "o")
	x.take(ack(1, 0, 3, true, 10), ack(2, 0, 3, true, 10))
	x.out()
	x.compacts(api.OK, 10, "p")
	x.has(api.Hard{Term: 3, Vote: 0, Base: 10, BaseTerm: 3, Members: 15, Snap: "p"})
	x.proposes(11, true, "j")
	x.says(appends(0, 1, 3, 10, 3, 10, en(3, "j")), appends(0, 2, 3, 10, 3, 10, en(3, "j")), install(0, 3, 3, 10, 3, 15, 0, 1, "p"))
}

// TestEachRoleCompacts what is sure to it.
func TestEachRoleCompacts(t *testing.T) {
	for _, x := range roles(t) {
		v := x.c.View()
		x.compacts(api.ErrArg, 3, "n")
		if v.Commit == 4 {
			x.compacts(api.ErrArg, 5, "n")
			x.compacts(api.OK, 4, "n")
		} else {
			x.compacts(api.ErrArg, 4, "n")
		}
	}
	x := begin(t, 1, logged(2, run(9, 2)...), 0)
	x.compacts(api.ErrArg, 1, "n")
	x.take(appends(0, 1, 2, 9, 2, 4))
	x.out()
	x.compacts(api.ErrArg, 5, "n")
	x.compacts(api.ErrArg, 0, "n")
	x.compacts(api.OK, 1, "n")
	x.ticks(10, 0)
	x.out()
	x.compacts(api.OK, 4, "m")
	x.has(api.Hard{Term: 3, Vote: 1, Base: 4, BaseTerm: 2, Members: 7, Snap: "m", Log: run(5, 2)})
	x.is(stands, -1, 4, 9, 10, 7)
}

// TestMembersOfASnapshot are those by the entries up to it, who ever belongs now.
func TestMembersOfASnapshot(t *testing.T) {
	l := []api.Entry{en(1, ""), of(1, 15), en(1, ""), of(1, 31), of(1, 15), en(1, "")}
	for index, members := range []int{1: 7, 2: 15, 3: 15, 4: 31, 5: 15, 6: 15} {
		if index == 0 {
			continue
		}
		x := begin(t, 0, logged(1, l...), 0)
		x.take(appends(1, 0, 1, 6, 1, 6))
		x.out()
		x.compacts(api.OK, index, "s")
		x.has(api.Hard{Term: 1, Vote: -1, Base: index, BaseTerm: 1, Members: members, Snap: "s", Log: l[index:]})
		x.is(follows, 1, 6, 6, 10, 15)
	}
}

// TestASnapshotBeginsAnew: the Off of each node is 0.
func TestASnapshotBeginsAnew(t *testing.T) {
	old, now := snapshot(1300), strings.Repeat("n", 1300)
	x := agreed(t, based(1, 5, 1, old), 1)
	x.take(ack(2, 0, 2, false, 0), more(2, 0, 2, 5, 600), ack(6, 0, 2, false, 0), more(6, 0, 2, 5, 1200))
	x.out()
	x.compacts(api.OK, 6, now)
	still(x, more(2, 0, 2, 6, 0))
	still(x, more(6, 0, 2, 6, 0))
	still(x, more(2, 0, 2, 5, 600))
	x.ticks(3, 0)
	x.says(appends(0, 1, 2, 6, 2, 6), install(0, 2, 2, 6, 2, 7, 0, 1300, now[:600]))
	x.take(more(6, 0, 2, 6, 700))
	x.says(install(0, 6, 2, 6, 2, 7, 700, 1300, now[700:]))
	// a shorter one: no piece is sent from behind its end
	x.take(more(2, 0, 2, 6, 1299))
	x.proposes(7, true, "a")
	x.take(ack(1, 0, 2, true, 7))
	x.out()
	x.compacts(api.OK, 7, "z")
	x.ticks(3, 0)
	x.says(appends(0, 1, 2, 7, 2, 7), install(0, 2, 2, 7, 2, 7, 0, 1, "z"))
	// a refusal changes no Off
	x = agreed(t, based(1, 5, 1, old), 1)
	x.take(ack(2, 0, 2, false, 0), more(2, 0, 2, 5, 600))
	x.out()
	x.compacts(api.ErrArg, 6, "")
	x.compacts(api.ErrArg, 7, now)
	still(x, more(2, 0, 2, 5, 600))
	x.take(more(2, 0, 2, 5, 0))
	x.says(install(0, 2, 2, 5, 1, 7, 0, 1300, old[:600]))
}
