package raft_test

import (
	"testing"

	"impost/api"
)

// P22.2

func TestAFollowersTicks(t *testing.T) {
	x := begin(t, 0, logged(4, en(2, "a"), en(4, "b")), 3)
	for left := 12; left > 0; left-- {
		x.tick(8)
		x.is(follows, -1, 0, 2, left, 7)
	}
	x.says()
	x.voted(4, -1)
	x.tick(8)
	x.is(stands, -1, 0, 2, 18, 7)
	x.voted(5, 0)
	x.says(ask(0, 1, 5, 2, 4), ask(0, 2, 5, 2, 4))
}

// TestWhoHeardALeaderStands when it hears no more, and takes nobody for the leader then.
func TestWhoHeardALeaderStands(t *testing.T) {
	x := begin(t, 2, fresh(), 1)
	x.ticks(10, 0)
	x.take(appends(1, 2, 3, 0, 0, 0))
	x.is(follows, 1, 0, 0, 11, 7)
	x.out()
	x.ticks(10, 0)
	x.is(follows, 1, 0, 0, 1, 7)
	x.says()
	x.tick(2)
	x.is(stands, -1, 0, 0, 12, 7)
	x.voted(4, 2)
	x.says(ask(2, 0, 4, 0, 0), ask(2, 1, 4, 0, 0))
}

// TestACandidatesTicks: it stands again, and only its own vote stays.
func TestACandidatesTicks(t *testing.T) {
	h := fresh(31)
	h.Term, h.Vote = 3, 4
	x := standing(t, h)
	x.take(vote(1, 0, 4, true))
	for left := 9; left > 0; left-- {
		x.tick(1)
		x.is(stands, -1, 0, 0, left, 31)
	}
	x.says()
	x.tick(1)
	x.is(stands, -1, 0, 0, 11, 31)
	x.voted(5, 0)
	x.says(ask(0, 1, 5, 0, 0), ask(0, 2, 5, 0, 0), ask(0, 3, 5, 0, 0), ask(0, 4, 5, 0, 0))
	x.take(vote(2, 0, 5, true))
	x.is(stands, -1, 0, 0, 11, 31)
	x.take(vote(3, 0, 5, true))
	x.is(leads, 0, 0, 1, beats, 31)
}

// TestALeadersTicks: each third one it sends, whatever is drawn.
func TestALeadersTicks(t *testing.T) {
	x := leading(t, fresh(), 2)
	x.take(ack(1, 0, 1, true, 1))
	x.out()
	for range 5 {
		x.tick(least)
		x.is(leads, 0, 1, 1, 2, 7)
		x.tick(most)
		x.is(leads, 0, 1, 1, 1, 7)
		x.says()
		x.tick(5)
		x.is(leads, 0, 1, 1, beats, 7)
		x.says(appends(0, 1, 1, 1, 1, 1), appends(0, 2, 1, 0, 0, 1, en(1, "")))
	}
	x.voted(1, 0)
	// a leader's ticks draw nothing: with the next letter it waits as it did ahead
	x.take(appends(1, 0, 2, 1, 1, 0))
	x.is(follows, 1, 1, 1, 10, 7)
}

// TestLeftOfOneThatLeadsNoMore: a letter of a Term above leaves it as it was, so that a core soon stands.
func TestLeftOfOneThatLeadsNoMore(t *testing.T) {
	x := leading(t, fresh(), 2)
	x.tick(0)
	x.take(ack(1, 0, 4, false, 0))
	x.is(follows, -1, 0, 1, 2, 7)
	x.tick(7)
	x.is(follows, -1, 0, 1, 1, 7)
	x.out()
	x.tick(7)
	x.is(stands, -1, 0, 1, 17, 7)
	x.voted(5, 0)
	x.says(ask(0, 1, 5, 1, 1), ask(0, 2, 5, 1, 1))
}

func TestTheLastTerm(t *testing.T) {
	h := fresh()
	h.Term, h.Vote = topTerm, 2
	x := begin(t, 0, h, 0)
	x.ticks(9, 4)
	x.is(follows, -1, 0, 0, 1, 7)
	x.tick(4)
	x.is(follows, -1, 0, 0, 14, 7)
	x.ticks(100, 0)
	x.says()
	x.voted(topTerm, 2)
	// whom it takes for the leader stays as well
	x.take(appends(1, 0, topTerm, 0, 0, 0))
	x.is(follows, 1, 0, 0, 10, 7)
	x.ticks(10, 6)
	x.is(follows, 1, 0, 0, 16, 7)
	// one Term ahead of the last
	h.Term = topTerm - 1
	x = begin(t, 0, h, 0)
	x.ticks(10, 4)
	x.is(stands, -1, 0, 0, 14, 7)
	x.voted(topTerm, 0)
	x.says(ask(0, 1, topTerm, 0, 0), ask(0, 2, topTerm, 0, 0))
	// a candidate of the last Term stays one
	x.ticks(14, 9)
	x.is(stands, -1, 0, 0, 19, 7)
	x.says()
	x.take(vote(1, 0, topTerm, true))
	x.is(leads, 0, 0, 1, beats, 7)
	x.logs(en(topTerm, ""))
	// an only one, too
	h = fresh(1)
	h.Term = topTerm
	x = begin(t, 0, h, 0)
	x.ticks(40, 0)
	x.is(follows, -1, 0, 0, 10, 1)
	h.Term = topTerm - 1
	leading(t, h).is(leads, 0, 1, 1, beats, 1)
}

// TestWhoDoesNotBelong stands just while the entry that says so is above Commit.
func TestWhoDoesNotBelong(t *testing.T) {
	gone := logged(3, en(2, "a"), of(3, 6), en(3, "b"))
	for commit := 0; commit <= 3; commit++ {
		x := begin(t, 0, gone, 0)
		x.take(appends(1, 0, 3, 3, 3, commit))
		x.is(follows, 1, commit, 3, 10, 6)
		x.out()
		x.ticks(10, 5)
		if commit >= 2 {
			x.is(follows, 1, commit, 3, 15, 6)
			x.voted(3, -1)
			x.says()
			continue
		}
		x.is(stands, -1, commit, 3, 15, 6)
		x.voted(4, 0)
		x.says(ask(0, 1, 4, 3, 3), ask(0, 2, 4, 3, 3))
	}
	// what the snapshot says is not above Commit
	for _, h := range []api.Hard{fresh(6), based(3, 5, 3, "s"), based(3, 5, 3, "s", en(3, "x"))} {
		h.Members = 6
		x := begin(t, 0, h, 0)
		x.ticks(40, 0)
		x.says()
		x.voted(h.Term, -1)
	}
	h := based(3, 5, 3, "s", of(3, 6))
	x := begin(t, 0, h, 0)
	x.ticks(10, 0)
	x.says(ask(0, 1, 4, 6, 3), ask(0, 2, 4, 6, 3))
	// one that didn't belong comes by an entry that needn't be sure
	x = begin(t, 4, logged(3, of(3, 23)), 0)
	x.ticks(10, 0)
	x.says(ask(4, 0, 4, 1, 3), ask(4, 1, 4, 1, 3), ask(4, 2, 4, 1, 3))
	// the last entry that says who belongs counts alone
	x = begin(t, 0, logged(3, of(3, 6), of(3, 7)), 0)
	x.take(appends(1, 0, 3, 2, 3, 2))
	x.out()
	x.ticks(10, 0)
	x.says(ask(0, 1, 4, 2, 3), ask(0, 2, 4, 2, 3))
	x = begin(t, 0, logged(3, of(3, 6), of(3, 14)), 0)
	x.take(appends(1, 0, 3, 2, 3, 1))
	x.out()
	x.ticks(10, 0)
	x.says(ask(0, 1, 4, 2, 3), ask(0, 2, 4, 2, 3), ask(0, 3, 4, 2, 3))
}

// TestStandingAlone: where its own vote is enough, it leads at once and asks nobody.
func TestStandingAlone(t *testing.T) {
	for id := 0; id <= topNode; id++ {
		x := begin(t, id, fresh(1<<id), 0)
		x.ticks(10, 3)
		x.is(leads, id, 1, 1, beats, 1<<id)
		x.voted(1, id)
		x.says()
		x.ticks(3, 3)
		x.is(leads, id, 1, 1, beats, 1<<id)
		x.says()
	}
	// a vote of one of two isn't enough, and of one that doesn't belong it isn't, too
	x := standing(t, fresh(3))
	x.is(stands, -1, 0, 0, 10, 3)
	x = begin(t, 0, logged(1, of(1, 2)), 0)
	x.ticks(10, 0)
	x.is(stands, -1, 0, 1, 10, 2)
	x.says(ask(0, 1, 2, 1, 1))
	for members := 1; members <= allNodes; members++ {
		x := begin(t, 0, fresh(members), 0)
		x.ticks(10, 0)
		switch l := listed(members); {
		case members == 1:
			x.is(leads, 0, 1, 1, beats, members)
			x.says()
		case l[0] == 0:
			var asked []api.Letter
			for _, f := range l[1:] {
				asked = append(asked, ask(0, f, 1, 0, 0))
			}
			x.is(stands, -1, 0, 0, 10, members)
			x.says(asked...)
		default:
			x.is(follows, -1, 0, 0, 10, members)
			x.says()
		}
	}
}

// TestWhatIsAsked: the last number and its term, of the Log and of the snapshot.
func TestWhatIsAsked(t *testing.T) {
	for _, c := range []struct {
		h         api.Hard
		index, at int
	}{
		{fresh(), 0, 0},
		{logged(7, en(1, "")), 1, 1},
		{logged(7, run(longLog, 6)...), longLog, 6},
		{based(7, 9, 4, "s"), 9, 4},
		{based(7, 9, 4, "s", en(4, ""), en(5, "")), 11, 5},
		{based(7, topIndex, 7, "s"), topIndex, 7},
		{based(7, topIndex-1, 2, "s", en(3, "")), topIndex, 3},
	} {
		x := begin(t, 1, c.h, 0)
		x.ticks(10, 0)
		x.says(ask(1, 0, c.h.Term+1, c.index, c.at), ask(1, 2, c.h.Term+1, c.index, c.at))
		x.logs(c.h.Log...)
	}
}
