package raft_test

import (
	"testing"

	"impost/api"
	"impost/raft"
)

// P22.1

// refused asks that New refuses what it is handed, with no core beside the error.
func refused(t *testing.T, id int, h api.Hard) {
	t.Helper()
	for _, draw := range []int{least, -1, 0, 5, most} {
		if c, e := raft.New(id, h, draw); c != nil || e != api.ErrArg {
			t.Errorf("New(%d, %s, %d): %v, %d", id, brief(h), draw, c, e)
		}
	}
}

func TestNewOfIds(t *testing.T) {
	for _, id := range []int{least, least + 1, -1 << 32, -128, -7, -2, -1, topNode + 1, topNode + 2, 64, 127, 128, 256, 1 << 32, most} {
		refused(t, id, fresh())
		refused(t, id, based(3, 5, 2, "s", en(3, "x")))
	}
	for id := 0; id <= topNode; id++ {
		for _, h := range rightHards() {
			begin(t, id, h, 0).is(follows, -1, h.Base, h.Base+len(h.Log), 10, membersOf(h))
		}
	}
}

// membersOf is who belongs by h, told from the entries' end.
func membersOf(h api.Hard) int {
	for k := len(h.Log) - 1; k >= 0; k-- {
		if h.Log[k].Members != 0 {
			return h.Log[k].Members
		}
	}
	return h.Members
}

// rightHards are Hards that are right, some at an edge.
func rightHards() []api.Hard {
	all := fresh(allNodes)
	all.Term, all.Vote = topTerm, topNode
	return []api.Hard{
		fresh(), fresh(1), fresh(1 << topNode), all,
		logged(3, en(1, "a"), of(2, 3), en(3, text(longEntry))),
		logged(3, of(3, allNodes)),
		logged(1, run(longLog, 1)...),
		based(3, 5, 3, "s"),
		based(3, 5, 2, text(longImage), en(2, ""), of(3, 15)),
		based(topTerm, topIndex, topTerm, "s"),
		based(9, topIndex-longLog, 1, "s", run(longLog, 9)...),
	}
}

// TestNewOfAHardThatIsNotRight, each in one thing alone.
func TestNewOfAHardThatIsNotRight(t *testing.T) {
	for _, turn := range []func(h *api.Hard){
		func(h *api.Hard) { h.Term = -1 },
		func(h *api.Hard) { h.Term = topTerm + 1 },
		func(h *api.Hard) { h.Term = 2 },
		func(h *api.Hard) { h.Vote = -2 },
		func(h *api.Hard) { h.Vote = topNode + 1 },
		func(h *api.Hard) { h.Base = -1 },
		func(h *api.Hard) { h.Base = 0 },
		func(h *api.Hard) { h.Base = topIndex },
		func(h *api.Hard) { h.Base = topIndex + 1 },
		func(h *api.Hard) { h.BaseTerm = 0 },
		func(h *api.Hard) { h.BaseTerm = 3 },
		func(h *api.Hard) { h.Members = 0 },
		func(h *api.Hard) { h.Members = allNodes + 1 },
		func(h *api.Hard) { h.Members = -1 },
		func(h *api.Hard) { h.Snap = "" },
		func(h *api.Hard) { h.Snap = text(longImage + 1) },
		func(h *api.Hard) { h.Log = run(longLog+1, 3) },
		func(h *api.Hard) { h.Log = []api.Entry{en(4, "")} },
		func(h *api.Hard) { h.Log = []api.Entry{en(3, ""), en(2, "")} },
		func(h *api.Hard) { h.Log = []api.Entry{en(3, text(longEntry+1))} },
		func(h *api.Hard) { h.Log = []api.Entry{of(3, allNodes+1)} },
		func(h *api.Hard) { h.Log = []api.Entry{{Term: 3, Members: 3, Data: "x"}} },
	} {
		h := based(3, 5, 2, "s", en(2, "a"), en(3, "b"))
		begin(t, 0, h, 0)
		turn(&h)
		refused(t, 0, h)
		refused(t, topNode, h)
		refused(t, topNode+1, h)
		refused(t, -1, h)
	}
	refused(t, 0, api.Hard{})
}

// TestDraws: the wait is the draw's, at New and whenever it is drawn anew.
func TestDraws(t *testing.T) {
	for draw, left := range map[int]int{
		0: 10, 1: 11, 2: 12, 9: 19, waits: 20, waits + 1: 10, waits + 2: 11, 21: 20, 22: 10, 23: 11,
		-1: 20, -2: 19, -10: 11, -11: 10, -12: 20, -22: 10, -23: 20,
		1 << 40: 10 + 1<<40%11, 1<<62 - 1: 10 + (1<<62-1)%11, most: 10 + most%11, most - 1: 10 + (most-1)%11,
		least: 10 + (11 - 8), least + 8: 10, least + 7: 20,
	} {
		if left != waitOf(draw) {
			t.Fatalf("the wait of %d is %d, not %d", draw, left, waitOf(draw))
		}
		begin(t, 0, fresh(), draw).is(follows, -1, 0, 0, left, 7)
		x := begin(t, 4, fresh(), 0)
		x.ticks(9, 3)
		x.tick(draw)
		x.is(follows, -1, 0, 0, left, 7)
		x = begin(t, 1, fresh(), 0)
		x.ticks(9, 3)
		x.tick(draw)
		x.is(stands, -1, 0, 0, left, 7)
		// what was drawn last is the wait from the next letter of a leader on, too
		x.ticks(4, 7)
		x.take(appends(0, 1, 1, 0, 0, 0))
		x.is(follows, 0, 0, 0, left, 7)
	}
	for draw := -100; draw < 100; draw++ {
		begin(t, 0, fresh(), draw).ticks(45, draw)
	}
}

// TestNewKnowsOfNothing: a core that is made anew has its Hard, and else nothing of before.
func TestNewKnowsOfNothing(t *testing.T) {
	for _, h := range rightHards() {
		x := begin(t, 3, h, 4)
		x.has(h)
		x.says()
		x.is(follows, -1, h.Base, h.Base+len(h.Log), 14, membersOf(h))
	}
	// nothing is under way
	x := begin(t, 0, fresh(), 0)
	x.take(install(1, 0, 1, 5, 1, 7, 0, 3, "a"))
	x.says(more(0, 1, 1, 5, 1))
	x = begin(t, 0, x.c.Hard(), 0)
	x.take(install(1, 0, 1, 5, 1, 7, 1, 3, "b"))
	x.says(more(0, 1, 1, 5, 0))
	// nobody leads, and what was sure is to be told again
	x = leading(t, fresh(), 1)
	x.take(ack(1, 0, 1, true, 1))
	x.is(leads, 0, 1, 1, beats, 7)
	x = begin(t, 0, x.c.Hard(), 0)
	x.is(follows, -1, 0, 1, 10, 7)
	x.voted(1, 0)
	// votes are counted of the Term in which it stands alone
	x = standing(t, fresh())
	x = begin(t, 0, x.c.Hard(), 0)
	x.take(vote(1, 0, 1, true))
	x.is(follows, -1, 0, 0, 10, 7)
}
