package raft_test

import (
	"testing"

	"impost/api"
)

// P22.5: MInstall and MMore.

// TestPiecesInOrder make the snapshot, and the core stands on it.
func TestPiecesInOrder(t *testing.T) {
	for _, size := range []int{1, 2, 599, 600, 601, 1200, 1201, 1999, longImage} {
		snap := snapshot(size)
		x := begin(t, 0, logged(1, en(1, "a"), of(1, 15)), 3)
		x.take(appends(2, 0, 1, 2, 1, 1))
		x.out()
		for off := 0; off < size; off += longPiece {
			x.tick(0)
			end := min(size, off+longPiece)
			x.take(install(2, 0, 7, 9, 5, 43, off, size, snap[off:end]))
			if end < size {
				x.says(more(0, 2, 7, 9, end))
				x.is(follows, 2, 1, 2, 13, 15)
				x.has(api.Hard{Term: 7, Vote: -1, Members: 7, Log: []api.Entry{en(1, "a"), of(1, 15)}})
				continue
			}
			x.says(ack(0, 2, 7, true, 9))
			x.is(follows, 2, 9, 9, 13, 43)
			x.has(api.Hard{Term: 7, Vote: -1, Base: 9, BaseTerm: 5, Members: 43, Snap: snap})
		}
		// nothing is under way then
		x.take(install(2, 0, 7, 10, 5, 43, 1, 9, "x"))
		x.says(more(0, 2, 7, 10, 0))
	}
}

// TestSmallPieces: their lengths are the sender's.
func TestSmallPieces(t *testing.T) {
	x := begin(t, 0, fresh(), 0)
	snap := snapshot(300)
	for off, n := 0, 1; off < 300; off, n = off+n, n+1 {
		end := min(300, off+n)
		x.take(install(1, 0, 1, 4, 1, 5, off, 300, snap[off:end]))
		if end < 300 {
			x.says(more(0, 1, 1, 4, end))
		}
	}
	x.says(ack(0, 1, 1, true, 4))
	x.has(api.Hard{Term: 1, Vote: -1, Base: 4, BaseTerm: 1, Members: 5, Snap: snap})
}

// TestPiecesOutOfOrder: what comes twice, too early or too late is asked for from where the core is.
func TestPiecesOutOfOrder(t *testing.T) {
	x := begin(t, 0, fresh(), 0)
	at := func(off int, data string) api.Letter { return install(1, 0, 2, 4, 1, 7, off, 6, data) }
	for _, c := range []struct {
		m    api.Letter
		have int
	}{
		{at(2, "c"), 0}, {at(5, "f"), 0}, {at(0, "a"), 1}, {at(2, "c"), 1}, {at(1, "b"), 2}, {at(1, "B"), 2},
		{at(3, "def"), 2}, {at(5, "f"), 2}, {at(1, "BCDEF"), 2}, {at(2, "cd"), 4}, {at(2, "CDEF"), 4}, {at(3, "DEF"), 4},
		// Off 0 begins anew
		{at(0, "uv"), 2}, {at(0, "ab"), 2}, {at(2, "cde"), 5}, {at(4, "ef"), 5},
	} {
		x.take(c.m)
		x.says(more(0, 1, 2, 4, c.have))
		x.is(follows, 1, 0, 0, 10, 7)
	}
	x.take(at(5, "f"))
	x.says(ack(0, 1, 2, true, 4))
	x.has(api.Hard{Term: 2, Vote: -1, Base: 4, BaseTerm: 1, Members: 7, Snap: "abcdef"})
	// and the last piece again
	x.take(at(5, "f"))
	x.says(ack(0, 1, 2, true, 4))
	x.take(at(0, "xxxxxx"))
	x.says(ack(0, 1, 2, true, 4))
	x.has(api.Hard{Term: 2, Vote: -1, Base: 4, BaseTerm: 1, Members: 7, Snap: "abcdef"})
}

// TestPiecesOfAnotherSnapshot: one of another Index, At or Size is none of what is under way; Members may be others.
func TestPiecesOfAnotherSnapshot(t *testing.T) {
	for _, turn := range []func(m *api.Letter){
		func(m *api.Letter) { m.Index = 5 },
		func(m *api.Letter) { m.Index = 3 },
		func(m *api.Letter) { m.At = 2 },
		func(m *api.Letter) { m.At = 4 },
		func(m *api.Letter) { m.Size = 7 },
		func(m *api.Letter) { m.Size = 5 },
	} {
		x := begin(t, 0, fresh(), 0)
		x.take(install(1, 0, 4, 4, 3, 7, 0, 6, "ab"))
		x.out()
		m := install(1, 0, 4, 4, 3, 7, 2, 6, "cd")
		turn(&m)
		x.take(m)
		x.says(more(0, 1, 4, m.Index, 0))
		// what was under way still is
		x.take(install(1, 0, 4, 4, 3, 7, 2, 6, "cd"))
		x.says(more(0, 1, 4, 4, 4))
		// one with Off 0 takes its place
		m.Off, m.Data = 0, "xy"
		x.take(m)
		x.says(more(0, 1, 4, m.Index, 2))
		x.take(install(1, 0, 4, 4, 3, 7, 4, 6, "ef"))
		x.says(more(0, 1, 4, 4, 0))
		m.Off, m.Data = 2, text(m.Size-2)
		x.take(m)
		x.says(ack(0, 1, 4, true, m.Index))
		x.has(api.Hard{Term: 4, Vote: -1, Base: m.Index, BaseTerm: m.At, Members: 7, Snap: "xy" + m.Data})
	}
	// from another sender, in another Term, with other Members: the last piece's count
	x := begin(t, 0, fresh(), 0)
	x.take(install(1, 0, 4, 4, 3, 7, 0, 6, "abc"))
	x.take(install(2, 0, 5, 4, 3, 9, 3, 6, "de"))
	x.take(install(3, 0, 8, 4, 3, 19, 5, 6, "f"))
	x.says(more(0, 1, 4, 4, 3), more(0, 2, 5, 4, 5), ack(0, 3, 8, true, 4))
	x.has(api.Hard{Term: 8, Vote: -1, Base: 4, BaseTerm: 3, Members: 19, Snap: "abcdef"})
	x.is(follows, 3, 4, 4, 10, 19)
}

// TestPiecesThatAreOld: what is sure already is acknowledged, and what is under way stays.
func TestPiecesThatAreOld(t *testing.T) {
	for _, h := range []api.Hard{logged(3, run(6, 3)...), based(3, 4, 3, "s", run(2, 3)...)} {
		x := begin(t, 0, h, 0)
		x.take(appends(1, 0, 3, 6, 3, 5))
		x.take(install(1, 0, 3, 6, 3, 7, 0, 4, "ab"))
		x.out()
		h = x.c.Hard()
		for index := 1; index <= 5; index++ {
			for _, off := range []int{0, 2, 3} {
				x.tick(0)
				x.take(install(2, 0, 3, index, 1, 9, off, 4, "x"))
				x.says(ack(0, 2, 3, true, index))
				x.is(follows, 2, 5, 6, 10, 7)
			}
		}
		x.has(h)
		x.take(install(1, 0, 3, 6, 3, 7, 2, 4, "cd"))
		x.says(ack(0, 1, 3, true, 6))
		x.is(follows, 1, 6, 6, 10, 7)
		x.has(based(3, 6, 3, "abcd"))
	}
}

// TestWhatStandsBehindASnapshot stays, if the core had the snapshot's last entry with its term.
func TestWhatStandsBehindASnapshot(t *testing.T) {
	l := []api.Entry{en(1, "a"), en(2, "b"), of(2, 15), en(3, "d"), of(4, 11)}
	for _, h := range []api.Hard{logged(5, l...), based(5, 2, 2, "s", l[2:]...)} {
		for index := 3; index <= 7; index++ {
			for at := 1; at <= 5; at++ {
				x := begin(t, 0, h, 0)
				x.take(install(1, 0, 5, index, at, 31, 0, 1, "n"))
				x.says(ack(0, 1, 5, true, index))
				want := based(5, index, at, "n")
				want.Members = 31
				members := 31
				if index <= 5 && l[index-1].Term == at {
					want.Log = l[index:]
					members = membersOf(want)
				}
				x.has(want)
				x.is(follows, 1, index, index+len(want.Log), 10, members)
			}
		}
	}
	// not what is of the same term alone: the number is another one
	x := begin(t, 0, logged(5, en(5, "a"), en(5, "b")), 0)
	x.take(install(1, 0, 5, 3, 5, 7, 0, 1, "n"))
	x.has(based(5, 3, 5, "n"))
	// entries that are sure, but stand behind, stay sure; Commit is the snapshot's
	x = begin(t, 0, logged(5, run(longLog, 5)...), 0)
	x.take(appends(1, 0, 5, 20, 5, 20), install(1, 0, 5, 150, 5, 7, 0, 1, "n"))
	x.is(follows, 1, 150, longLog, 10, 7)
	x.has(based(5, 150, 5, "n", run(50, 5)...))
}

// TestInstallAtTheEdges of numbers, terms and members.
func TestInstallAtTheEdges(t *testing.T) {
	x := begin(t, 0, based(topTerm, topIndex-1, 3, "s"), 0)
	x.take(install(1, 0, topTerm, topIndex, topTerm, 1, 0, 1, "n"))
	x.says(ack(0, 1, topTerm, true, topIndex))
	x.is(follows, 1, topIndex, topIndex, 10, 1)
	x.take(install(1, 0, topTerm, topIndex, topTerm, allNodes, 0, 1, "m"))
	x.says(ack(0, 1, topTerm, true, topIndex))
	x.is(follows, 1, topIndex, topIndex, 10, 1)
	x = begin(t, 0, fresh(), 0)
	x.take(install(1, 0, 1, 1, 1, allNodes, 0, 1, "n"))
	x.has(api.Hard{Term: 1, Vote: -1, Base: 1, BaseTerm: 1, Members: allNodes, Snap: "n"})
	// just above Commit, and at it
	x = begin(t, 0, logged(1, run(4, 1)...), 0)
	x.take(appends(1, 0, 1, 3, 1, 3))
	x.out()
	x.take(install(1, 0, 1, 3, 1, 7, 0, 1, "n"))
	x.says(ack(0, 1, 1, true, 3))
	x.has(logged(1, run(4, 1)...))
	x.take(install(1, 0, 1, 4, 1, 7, 0, 1, "n"))
	x.says(ack(0, 1, 1, true, 4))
	x.has(based(1, 4, 1, "n"))
}

// TestALeaderTakesNoPieces of its own Term.
func TestALeaderTakesNoPieces(t *testing.T) {
	x := leading(t, five(), 1)
	x.out()
	still(x, install(1, 0, 5, 20, 4, 7, 0, 1, "n"))
	still(x, install(1, 0, 5, 3, 1, 7, 0, 1, "n"))
	x.take(install(1, 0, 6, 20, 4, 7, 0, 1, "n"))
	x.is(follows, 1, 20, 20, 10, 7)
	x.says(ack(0, 1, 6, true, 20))
	// one that stands takes them, and follows
	x = standing(t, five())
	x.take(install(1, 0, 5, 20, 4, 7, 0, 2, "n"))
	x.is(follows, 1, 5, 7, 10, 7)
	x.says(more(0, 1, 5, 20, 1))
}

// TestWhatIsUnderWayStays while the core stands, leads, and follows again.
func TestWhatIsUnderWayStays(t *testing.T) {
	x := begin(t, 0, fresh(), 0)
	x.take(install(1, 0, 1, 4, 1, 7, 0, 3, "a"))
	x.ticks(10, 0)
	x.take(vote(2, 0, 2, true))
	x.is(leads, 0, 0, 1, beats, 7)
	x.out()
	x.take(install(1, 0, 3, 4, 1, 7, 1, 3, "b"))
	x.says(more(0, 1, 3, 4, 2))
	// entries that are taken meanwhile change nothing of it, nor does a snapshot of its own
	x.take(appends(1, 0, 3, 0, 0, 2, en(1, ""), en(1, "")))
	x.compact(2, "own")
	x.out()
	x.take(install(1, 0, 3, 4, 1, 7, 2, 3, "c"))
	x.says(ack(0, 1, 3, true, 4))
	x.has(based(3, 4, 1, "abc"))
}

// TestMore: each of the conditions.
func TestMore(t *testing.T) {
	snap := snapshot(1300)
	begun := func() *core {
		x := leading(t, based(3, 5, 2, snap, en(3, "f")), 1)
		x.out()
		x.take(ack(2, 0, 4, false, 4))
		x.says(install(0, 2, 4, 5, 2, 7, 0, 1300, snap[:600]))
		return x
	}
	x := begun()
	x.take(more(2, 0, 4, 5, 600))
	x.says(install(0, 2, 4, 5, 2, 7, 600, 1300, snap[600:1200]))
	still(x, more(2, 0, 4, 5, 600))
	x.take(more(2, 0, 4, 5, 599))
	x.says(install(0, 2, 4, 5, 2, 7, 599, 1300, snap[599:1199]))
	x.take(more(2, 0, 4, 5, 1299))
	x.says(install(0, 2, 4, 5, 2, 7, 1299, 1300, snap[1299:]))
	x.take(more(2, 0, 4, 5, 0))
	x.says(install(0, 2, 4, 5, 2, 7, 0, 1300, snap[:600]))
	for _, off := range []int{0, 1300, 1301, longImage} {
		still(x, more(2, 0, 4, 5, off))
	}
	for _, index := range []int{1, 4, 6, 7, topIndex} {
		still(x, more(2, 0, 4, index, 600))
	}
	still(x, more(2, 0, 3, 5, 600))
	// Next of the node 1 is above Base, and so is that of one that doesn't belong
	still(x, more(1, 0, 4, 5, 600))
	still(x, more(6, 0, 4, 5, 600))
	x.take(ack(1, 0, 4, false, 5))
	x.out()
	still(x, more(1, 0, 4, 5, 600))
	x.take(ack(1, 0, 4, false, 4))
	x.says(install(0, 1, 4, 5, 2, 7, 0, 1300, snap[:600]))
	x.take(more(1, 0, 4, 5, 600))
	x.says(install(0, 1, 4, 5, 2, 7, 600, 1300, snap[600:1200]))
	// one that doesn't belong is sent its pieces as well
	x.take(ack(6, 0, 4, false, 0), more(6, 0, 4, 5, 2))
	x.says(install(0, 6, 4, 5, 2, 7, 0, 1300, snap[:600]), install(0, 6, 4, 5, 2, 7, 2, 1300, snap[2:602]))
	// each node has an Off of its own
	x.ticks(3, 0)
	x.says(install(0, 1, 4, 5, 2, 7, 600, 1300, snap[600:1200]), install(0, 2, 4, 5, 2, 7, 0, 1300, snap[:600]))
	// who has it all asks no more
	x.take(ack(2, 0, 4, true, 5))
	x.says(appends(0, 2, 4, 5, 2, 5, en(3, "f"), en(4, "")))
	still(x, more(2, 0, 4, 5, 600))
	// a Term above
	x.take(more(2, 0, 5, 5, 600))
	x.says()
	x.is(follows, -1, 5, 7, beats, 7)
	x.voted(5, -1)
	for _, x := range roles(t)[:3] {
		still(x, more(1, 0, 5, 3, 1))
	}
	// without a snapshot nothing is asked of it
	x = leading(t, fresh(), 1)
	x.out()
	still(x, more(1, 0, 1, 1, 0))
}
