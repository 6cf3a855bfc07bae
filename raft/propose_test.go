package raft_test

import (
	"testing"

	"impost/api"
)

// P22.7

// agreed is the core 0, which leads and has made its first entry sure.
func agreed(t *testing.T, h api.Hard, by ...int) *core {
	t.Helper()
	x := leading(t, h, by...)
	last := x.c.View().Last
	for _, f := range by {
		x.take(ack(f, 0, h.Term+1, true, last))
	}
	if v := x.c.View(); v.Commit != last {
		x.fail("is %+v", v)
	}
	x.out()
	return x
}

// proposes asks what Propose answers; where it refuses, nothing happens.
func (x *core) proposes(n int, ok bool, data ...string) {
	x.t.Helper()
	h, v := x.c.Hard(), x.c.View()
	if k, is := x.propose(data...); k != n || is != ok {
		x.fail("Propose(%s) is %d, %v, must be %d, %v", brief(data), k, is, n, ok)
	}
	if !ok {
		x.says()
		x.has(h)
		if x.c.View() != v {
			x.fail("is %+v, must be %+v", x.c.View(), v)
		}
	}
}

func TestPropose(t *testing.T) {
	x := agreed(t, fresh(), 1)
	x.tick(0)
	x.proposes(2, true, "x")
	x.is(leads, 0, 1, 2, 2, 7)
	x.says(appends(0, 1, 1, 1, 1, 1, en(1, "x")), appends(0, 2, 1, 0, 0, 1, en(1, ""), en(1, "x")))
	x.proposes(3, true, "", "y", "")
	x.logs(en(1, ""), en(1, "x"), en(1, ""), en(1, "y"), en(1, ""))
	x.says(
		appends(0, 1, 1, 1, 1, 1, en(1, "x"), en(1, ""), en(1, "y"), en(1, "")),
		appends(0, 2, 1, 0, 0, 1, en(1, ""), en(1, "x"), en(1, ""), en(1, "y"), en(1, "")),
	)
	x.is(leads, 0, 1, 5, 2, 7)
	x.take(ack(2, 0, 1, true, 5))
	x.is(leads, 0, 5, 5, 2, 7)
	x.proposes(6, true, "z")
	// an only one makes it sure at once
	x = agreed(t, fresh(1))
	x.proposes(2, true, "a", "b", "c")
	x.is(leads, 0, 4, 4, beats, 1)
	x.says()
	x.proposes(0, false)
	x.proposes(5, true, "d")
	x.is(leads, 0, 5, 5, beats, 1)
	// ahead of any entry of its Term being sure
	x = leading(t, logged(1, en(1, "a")), 1)
	x.proposes(3, true, "b")
	x.is(leads, 0, 0, 3, beats, 7)
}

// TestWhoIsAskedToPropose: a leader alone takes anything.
func TestWhoIsAskedToPropose(t *testing.T) {
	for _, x := range roles(t)[:3] {
		x.proposes(0, false, "x")
		x.proposes(0, false, "x", "y")
		x.proposes(0, false)
	}
	begin(t, 5, fresh(), 0).proposes(0, false, "x")
	x := roles(t)[3]
	x.proposes(7, true, "x")
}

func TestWhatIsProposed(t *testing.T) {
	x := agreed(t, fresh(), 1)
	x.proposes(0, false)
	x.proposes(0, false, []string{}...)
	x.proposes(2, true, text(longEntry))
	x.out()
	x.proposes(0, false, text(longEntry+1))
	x.proposes(0, false, text(2*longEntry))
	x.proposes(0, false, "a", text(longEntry+1))
	x.proposes(0, false, text(longEntry+1), "a")
	x.proposes(0, false, "a", text(longEntry+1), "b")
	x.proposes(3, true, text(longEntry), "\x00\xff", text(longEntry))
	x.logs(en(1, ""), en(1, text(longEntry)), en(1, text(longEntry)), en(1, "\x00\xff"), en(1, text(longEntry)))
}

// TestHowMuchIsProposed: the Log grows to Long entries, and no more.
func TestHowMuchIsProposed(t *testing.T) {
	for _, had := range []int{0, 1, 50, longAsked - 3, longAsked - 2, longAsked - 1, longAsked, longAsked + 1, longLog - 1} {
		for _, base := range []int{0, 30} {
			h := logged(1, run(had, 1)...)
			if base > 0 {
				h = based(1, base, 1, "s", run(had, 1)...)
			}
			x := leading(t, h, 1)
			x.out()
			room := longAsked - had - 1
			x.proposes(0, false, make([]string, max(room, 0)+1)...)
			x.proposes(0, false, make([]string, 500)...)
			if room <= 0 {
				x.proposes(0, false, "x")
				continue
			}
			x.proposes(base+had+2, true, make([]string, room)...)
			x.is(leads, 0, base, base+longAsked, beats, 7)
			x.out()
			x.proposes(0, false, "")
			// one by one it comes to the same
			y := leading(t, h, 1)
			for k := range room {
				y.proposes(base+had+2+k, true, "x")
			}
			y.out()
			y.proposes(0, false, "")
		}
	}
	// room that a snapshot makes
	x := agreed(t, fresh(), 1)
	x.proposes(2, true, make([]string, longAsked-1)...)
	x.take(ack(1, 0, 1, true, longAsked))
	x.out()
	x.proposes(0, false, "x")
	x.compacts(api.OK, 2, "s")
	x.proposes(0, false, "x", "y", "z")
	x.proposes(longAsked+1, true, "x", "y")
	x.out()
	x.proposes(0, false, "x")
}

// TestProposeAtTheLastNumber: none stands above MaxIndex.
func TestProposeAtTheLastNumber(t *testing.T) {
	for free := range 5 {
		x := leading(t, based(1, topIndex-free-1, 1, "s"), 1)
		x.is(leads, 0, topIndex-free-1, topIndex-free, beats, 7)
		x.out()
		x.proposes(0, false, make([]string, free+1)...)
		x.proposes(0, false, make([]string, free+90)...)
		if free > 0 {
			x.proposes(topIndex-free+1, true, make([]string, free)...)
			x.is(leads, 0, topIndex-free-1, topIndex, beats, 7)
			x.out()
		}
		x.proposes(0, false, "")
	}
	x := leading(t, based(1, topIndex, 1, "s"), 1)
	x.out()
	x.proposes(0, false, "")
	x.changes(0, false, 3)
}
