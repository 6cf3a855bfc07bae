package raft_test

import (
	"slices"
	"testing"

	"impost/api"
)

// P22.5: MAppend.

func abc() []api.Entry { return []api.Entry{en(1, "a"), en(2, "b"), en(2, "c")} }

// five stands on a snapshot of five entries, with two behind it.
func five() api.Hard { return based(4, 5, 2, "s", en(2, "f"), en(3, "g")) }

func TestAppends(t *testing.T) {
	for _, c := range []struct {
		what string
		h    api.Hard
		m    api.Letter
		yes  bool
		to   int
		log  []api.Entry
		sure int
	}{
		{"nothing, of nothing", logged(3), appends(1, 0, 3, 0, 0, 0), true, 0, nil, 0},
		{"the first", logged(3), appends(1, 0, 3, 0, 0, 0, en(1, "a"), en(3, "b")), true, 2, []api.Entry{en(1, "a"), en(3, "b")}, 0},
		{"none, at the last number", logged(3, abc()...), appends(1, 0, 3, 3, 2, 0), true, 3, abc(), 0},
		{"none, within", logged(3, abc()...), appends(1, 0, 3, 2, 2, 0), true, 2, abc(), 0},
		{"none, at Base", logged(3, abc()...), appends(1, 0, 3, 0, 0, 0), true, 0, abc(), 0},
		{"more, at the last number", logged(3, abc()...), appends(1, 0, 3, 3, 2, 0, en(2, "d"), en(3, "e")), true, 5, append(abc(), en(2, "d"), en(3, "e")), 0},
		{"all that it has", logged(3, abc()...), appends(1, 0, 3, 0, 0, 0, abc()...), true, 3, abc(), 0},
		{"some that it has", logged(3, abc()...), appends(1, 0, 3, 1, 1, 0, en(2, "b")), true, 2, abc(), 0},
		{"that it has, and more", logged(3, abc()...), appends(1, 0, 3, 1, 1, 0, en(2, "b"), en(2, "c"), en(3, "d")), true, 4, append(abc(), en(3, "d")), 0},
		{"members", logged(3, abc()...), appends(1, 0, 3, 3, 2, 0, of(3, 15)), true, 4, append(abc(), of(3, 15)), 0},
		{"with a number and a Term that it has, though otherwise", logged(3, abc()...), appends(1, 0, 3, 1, 1, 0, en(2, "B"), of(2, 3)), true, 3, abc(), 0},
		{"another one behind the first", logged(3, abc()...), appends(1, 0, 3, 1, 1, 0, en(3, "B")), true, 2, []api.Entry{en(1, "a"), en(3, "B")}, 0},
		{"another last one, and more", logged(3, abc()...), appends(1, 0, 3, 1, 1, 0, en(2, "b"), en(3, "C"), en(3, "D")), true, 4, []api.Entry{en(1, "a"), en(2, "b"), en(3, "C"), en(3, "D")}, 0},
		{"another first one", logged(3, abc()...), appends(1, 0, 3, 0, 0, 0, en(2, "A"), en(2, "b")), true, 2, []api.Entry{en(2, "A"), en(2, "b")}, 0},
		{"of a lower term in its place", logged(3, abc()...), appends(1, 0, 3, 1, 1, 0, en(1, "B")), true, 2, []api.Entry{en(1, "a"), en(1, "B")}, 0},
		{"above the last number", logged(3, abc()...), appends(1, 0, 3, 4, 2, 9, en(3, "e")), false, 3, abc(), 0},
		{"far above", logged(3, abc()...), appends(1, 0, 3, topIndex, 2, 9), false, 3, abc(), 0},
		{"above nothing", logged(3), appends(1, 0, 3, 1, 1, 9), false, 0, nil, 0},
		{"another term at the last number", logged(3, abc()...), appends(1, 0, 3, 3, 3, 9, en(3, "d")), false, 2, abc(), 0},
		{"a lower one there", logged(3, abc()...), appends(1, 0, 3, 3, 1, 9, en(3, "d")), false, 2, abc(), 0},
		{"another term within", logged(3, abc()...), appends(1, 0, 3, 1, 2, 9, en(2, "b")), false, 0, abc(), 0},
		{"another term, and none", logged(3, abc()...), appends(1, 0, 3, 2, 1, 9), false, 1, abc(), 0},
		{"Commit above what came", logged(3, abc()...), appends(1, 0, 3, 1, 1, 9, en(2, "b")), true, 2, abc(), 2},
		{"Commit above it, with none", logged(3, abc()...), appends(1, 0, 3, 1, 1, topIndex), true, 1, abc(), 1},
		{"Commit at it", logged(3, abc()...), appends(1, 0, 3, 1, 1, 2, en(2, "b")), true, 2, abc(), 2},
		{"Commit below it", logged(3, abc()...), appends(1, 0, 3, 1, 1, 1, en(2, "b")), true, 2, abc(), 1},
		{"Commit below where it begins", logged(3, abc()...), appends(1, 0, 3, 3, 2, 1, en(3, "d")), true, 4, append(abc(), en(3, "d")), 1},
		{"above a snapshot", five(), appends(1, 0, 4, 7, 3, 8, en(4, "h")), true, 8, []api.Entry{en(2, "f"), en(3, "g"), en(4, "h")}, 8},
		{"at Base", five(), appends(1, 0, 4, 5, 2, 9, en(2, "f")), true, 6, []api.Entry{en(2, "f"), en(3, "g")}, 6},
		{"at Base, with none", five(), appends(1, 0, 4, 5, 2, 9), true, 5, []api.Entry{en(2, "f"), en(3, "g")}, 5},
		{"at Base, another one behind", five(), appends(1, 0, 4, 5, 2, 0, en(3, "F")), true, 6, []api.Entry{en(3, "F")}, 5},
		{"at Base, with another term", five(), appends(1, 0, 4, 5, 1, 9, en(2, "f")), false, 4, []api.Entry{en(2, "f"), en(3, "g")}, 5},
		{"below Base", five(), appends(1, 0, 4, 2, 1, 9), true, 2, []api.Entry{en(2, "f"), en(3, "g")}, 5},
		{"below Base, with any term", five(), appends(1, 0, 4, 4, 4, 0), true, 4, []api.Entry{en(2, "f"), en(3, "g")}, 5},
		{"from the beginning, up below Base", five(), appends(1, 0, 4, 0, 0, 9, en(1, ""), en(1, ""), en(1, ""), en(1, "")), true, 4, []api.Entry{en(2, "f"), en(3, "g")}, 5},
		{"below Base, with other terms", five(), appends(1, 0, 4, 1, 1, 9, en(3, ""), en(4, "")), true, 3, []api.Entry{en(2, "f"), en(3, "g")}, 5},
		{"up to Base", five(), appends(1, 0, 4, 3, 1, 9, en(1, ""), en(2, "")), true, 5, []api.Entry{en(2, "f"), en(3, "g")}, 5},
		{"over Base", five(), appends(1, 0, 4, 3, 1, 9, en(1, ""), en(2, ""), en(2, "f"), en(4, "G"), en(4, "h")), true, 8, []api.Entry{en(2, "f"), en(4, "G"), en(4, "h")}, 8},
		{"over Base, what it has", five(), appends(1, 0, 4, 4, 1, 6, en(2, ""), en(2, "f")), true, 6, []api.Entry{en(2, "f"), en(3, "g")}, 6},
	} {
		for _, term := range []int{c.m.Term, 9} {
			x := begin(t, 0, c.h, 4)
			x.ticks(3, 0)
			m := c.m
			m.Term = term
			x.take(m)
			x.says(ack(0, 1, term, c.yes, c.to))
			x.logs(c.log...)
			x.is(follows, 1, c.sure, c.h.Base+len(c.log), 14, membersOf(api.Hard{Members: 7, Log: c.log}))
			if t.Failed() {
				t.Fatal(c.what)
			}
			// told twice it makes no difference
			x.take(m)
			x.logs(c.log...)
			x.says(ack(0, 1, term, c.yes, c.to))
		}
	}
}

// TestAppendsAgainstWhatIsSure: nothing happens, but that a Term above counts.
func TestAppendsAgainstWhatIsSure(t *testing.T) {
	for _, c := range []struct {
		what    string
		m       api.Letter
		against bool
	}{
		{"below Commit", appends(1, 0, 9, 6, 2, 9, en(4, "G")), true},
		{"of a lower term", appends(1, 0, 9, 6, 2, 9, en(2, "G")), true},
		{"at Commit", appends(1, 0, 9, 7, 3, 9, en(4, "H")), true},
		{"behind one that is as it was", appends(1, 0, 9, 6, 2, 9, en(3, ""), en(4, "")), true},
		{"at Base", appends(1, 0, 9, 4, 1, 9, en(1, "")), true},
		{"at Base, all behind as it was", appends(1, 0, 9, 3, 1, 9, en(1, ""), en(1, ""), en(2, ""), en(3, "")), true},
		{"behind the last number", appends(1, 0, 9, 9, 3, 0, en(4, "")), false},
		{"above the last number", appends(1, 0, 9, 11, 3, 0, en(4, "")), false},
		{"above Commit", appends(1, 0, 9, 8, 3, 0, en(4, "I")), false},
		{"above it, behind some that are as they were", appends(1, 0, 9, 5, 2, 0, en(2, ""), en(3, ""), en(3, ""), en(4, "I")), false},
		{"below Base", appends(1, 0, 9, 1, 1, 0, en(7, ""), en(8, ""), en(9, "")), false},
		{"where another term is said of the one ahead", appends(1, 0, 9, 7, 2, 0, en(3, "h")), false},
	} {
		x := begin(t, 0, based(4, 5, 2, "s", en(2, "f"), en(3, "g"), en(3, "h"), en(3, "i")), 2)
		x.take(appends(2, 0, 4, 9, 3, 8))
		x.is(follows, 2, 8, 9, 12, 7)
		x.ticks(3, 0)
		x.out()
		h := x.c.Hard()
		x.take(c.m)
		if !c.against {
			x.is(follows, 1, 8, 5+len(x.c.Hard().Log), 12, 7)
			if l := x.out(); len(l) != 1 || l[0].Kind != isAck {
				t.Errorf("%s: %s", c.what, brief(l))
			}
			continue
		}
		h.Term, h.Vote = 9, -1
		x.says()
		x.has(h)
		x.is(follows, -1, 8, 9, 9, 7)
		// in the Term that it has, whom it took for the leader stays
		y := begin(t, 0, h, 2)
		y.take(appends(2, 0, 9, 9, 3, 8))
		y.tick(0)
		y.out()
		still(y, c.m)
		y.is(follows, 2, 8, 9, 11, 7)
	}
	// one that stands goes on
	x := standing(t, five())
	still(x, appends(1, 0, 5, 4, 1, 9, en(1, "")))
	x.is(stands, -1, 5, 7, 10, 7)
	x.take(vote(1, 0, 5, true))
	x.is(leads, 0, 5, 8, beats, 7)
}

// TestWhoHearsALeader follows it, whatever it answers.
func TestWhoHearsALeader(t *testing.T) {
	for _, m := range []api.Letter{
		appends(1, 0, 5, 7, 3, 0), appends(1, 0, 5, 9, 3, 0), appends(1, 0, 5, 7, 4, 0), appends(1, 0, 5, 7, 3, 0, en(5, "h")),
	} {
		x := standing(t, five())
		x.ticks(3, 0)
		x.take(m)
		x.voted(5, 0)
		if v := x.c.View(); v.Role != follows || v.Leads != 1 || v.Left != 10 {
			x.fail("is %+v", v)
		}
		if len(x.out()) != 1 {
			x.fail("sent otherwise")
		}
		// another one of the same Term is heard likewise
		m.From = 2
		x.tick(0)
		x.take(m)
		if v := x.c.View(); v.Role != follows || v.Leads != 2 || v.Left != 10 {
			x.fail("is %+v", v)
		}
	}
	x := leading(t, five(), 1)
	x.out()
	still(x, appends(1, 0, 5, 7, 3, 9, en(5, "h")))
	still(x, appends(2, 0, 5, 0, 0, 0))
	x.take(appends(2, 0, 6, 8, 5, 8))
	x.is(follows, 2, 8, 8, 10, 7)
	x.says(ack(0, 2, 6, true, 8))
}

// TestRoom: what stands more than MaxLog above Base isn't taken.
func TestRoom(t *testing.T) {
	three := []api.Entry{en(2, "x"), en(2, "y"), en(2, "z")}
	for had := longLog - 4; had <= longLog; had++ {
		for _, base := range []int{0, 30} {
			h := logged(1, run(had, 1)...)
			if base > 0 {
				h = based(1, base, 1, "s", run(had, 1)...)
			}
			x := begin(t, 0, h, 0)
			x.take(appends(1, 0, 2, base+had, 1, topIndex, three...))
			n := min(3, longLog-had)
			x.says(ack(0, 1, 2, true, base+had+n))
			x.logs(slices.Concat(run(had, 1), three[:n])...)
			x.is(follows, 1, base+had+n, base+had+n, 10, 7)
		}
	}
	// those that are cut off leave room, and what it has is passed
	x := begin(t, 0, logged(1, run(longLog, 1)...), 0)
	x.take(appends(1, 0, 2, longLog-2, 1, 0, three...))
	x.says(ack(0, 1, 2, true, longLog))
	x.logs(append(run(longLog-2, 1), three[:2]...)...)
	x.take(appends(1, 0, 2, longLog-2, 1, 0, three...))
	x.says(ack(0, 1, 2, true, longLog))
	x.take(appends(1, 0, 2, longLog, 2, topIndex, en(2, ""), en(2, "")))
	x.says(ack(0, 1, 2, true, longLog))
	x.is(follows, 1, longLog, longLog, 10, 7)
	// a snapshot makes room
	x.compact(1, "s")
	x.take(appends(1, 0, 2, longLog, 2, topIndex, en(2, ""), en(2, "")))
	x.says(ack(0, 1, 2, true, longLog+1))
	// from below Base on
	x = begin(t, 0, based(1, 3, 1, "s", run(longLog-1, 1)...), 0)
	x.take(appends(1, 0, 1, 0, 0, topIndex, run(longBatch, 1)...))
	x.says(ack(0, 1, 1, true, longBatch))
	x.take(appends(1, 0, 1, longLog, 1, topIndex, run(longBatch, 1)...))
	x.says(ack(0, 1, 1, true, longLog+3))
}

// TestTheLastNumber: entries up to MaxIndex are taken.
func TestTheLastNumber(t *testing.T) {
	x := begin(t, 0, based(1, topIndex-2, 1, "s"), 0)
	x.take(appends(1, 0, 2, topIndex-3, 1, topIndex, en(1, ""), en(1, "y"), en(2, "z")))
	x.says(ack(0, 1, 2, true, topIndex))
	x.logs(en(1, "y"), en(2, "z"))
	x.is(follows, 1, topIndex, topIndex, 10, 7)
	still(x, appends(1, 0, 2, topIndex, 2, topIndex, en(2, "")))
	x.take(appends(1, 0, 2, topIndex, 1, topIndex))
	x.says(ack(0, 1, 2, false, topIndex-1))
}

// TestMembersThatAreTaken count ahead of being sure, and no more when they are cut off.
func TestMembersThatAreTaken(t *testing.T) {
	x := begin(t, 0, fresh(), 0)
	x.take(appends(1, 0, 1, 0, 0, 0, en(1, ""), of(1, 15)))
	x.is(follows, 1, 0, 2, 10, 15)
	x.take(appends(1, 0, 1, 2, 1, 2, of(1, 11)))
	x.is(follows, 1, 2, 3, 10, 11)
	x.take(appends(2, 0, 2, 2, 1, 2, en(2, "")))
	x.is(follows, 2, 2, 3, 10, 15)
	x.take(appends(2, 0, 2, 3, 2, 2, of(2, 14)))
	x.is(follows, 2, 2, 4, 10, 14)
}

// TestCommitNeverFalls, however low a letter's is.
func TestCommitNeverFalls(t *testing.T) {
	x := begin(t, 0, logged(2, run(9, 2)...), 0)
	for _, c := range []struct{ index, commit, want int }{{5, 4, 4}, {5, 9, 5}, {9, 2, 5}, {0, 9, 5}, {6, 5, 5}, {6, 6, 6}, {9, 8, 8}, {9, 0, 8}, {3, 9, 8}, {9, 9, 9}} {
		x.take(appends(1, 0, 2, c.index, min(c.index, 1)*2, c.commit))
		x.is(follows, 1, c.want, 9, 10, 7)
	}
}
