package raft_test

import (
	"testing"

	"impost/api"
)

// P22.5: MAsk and MVote.

// TestAsksWhileThereIsALeader: one that was heard less than Wait ticks ago counts.
func TestAsksWhileThereIsALeader(t *testing.T) {
	for draw := 0; draw <= waits; draw++ {
		for n := range waits + draw {
			x := begin(t, 0, fresh(), draw)
			x.ticks(4, 0)
			x.take(appends(2, 0, 1, 0, 0, 0))
			x.out()
			x.ticks(n, 0)
			x.is(follows, 2, 0, 0, waits+draw-n, 7)
			if n < waits {
				still(x, ask(1, 0, 1, 0, 0))
				still(x, ask(1, 0, 9, 5, 8))
				still(x, ask(2, 0, 9, 5, 8))
				continue
			}
			x.take(ask(1, 0, 9, 5, 8))
			x.says(vote(0, 1, 9, true))
			x.is(follows, -1, 0, 0, waits+draw, 7)
			x.voted(9, 1)
		}
	}
}

// TestWhatCountsAsHeard: a snapshot's piece does, one of a Term below doesn't, a vote that is given starts the wait anew.
func TestWhatCountsAsHeard(t *testing.T) {
	x := begin(t, 0, fresh(), 5)
	x.ticks(14, 0)
	x.take(install(2, 0, 1, 5, 1, 7, 0, 2, "a"))
	x.out()
	x.ticks(9, 0)
	still(x, ask(1, 0, 9, 5, 8))
	x.take(appends(2, 0, 1, 9, 1, 0))
	x.out()
	x.ticks(9, 0)
	still(x, ask(1, 0, 9, 5, 8))
	x.tick(0)
	// in the Term of the leader that is silent now, its vote being free
	x.take(ask(1, 0, 1, 0, 0))
	x.says(vote(0, 1, 1, true))
	x.is(follows, 2, 0, 0, 15, 7)
	still(x, ask(1, 0, 9, 5, 8))
	x.ticks(10, 0)
	x.take(appends(2, 0, 1, 0, 0, 0))
	x.out()
	x.ticks(10, 0)
	x.take(vote(2, 0, 4, false))
	x.is(follows, -1, 0, 0, 5, 7)
	x.take(appends(2, 0, 3, 0, 0, 0))
	x.says(ack(0, 2, 4, false, 0))
	x.take(ask(1, 0, 4, 0, 0))
	x.says(vote(0, 1, 4, true))
	// one that may not stand takes the silent one for the leader still
	h := fresh()
	h.Term = topTerm
	x = begin(t, 0, h, 1)
	x.take(appends(2, 0, topTerm, 0, 0, 0))
	x.ticks(10, 1)
	x.out()
	x.take(ask(1, 0, 3, 0, 0))
	x.says(vote(0, 1, topTerm, false))
	x.tick(1)
	x.is(follows, 2, 0, 0, 11, 7)
	still(x, ask(1, 0, topTerm, 0, 0))
}

// TestALeaderPassesAsksOver, in whatever Term.
func TestALeaderPassesAsksOver(t *testing.T) {
	x := leading(t, logged(3, en(3, "a")), 2)
	x.out()
	for _, term := range []int{1, 3, 4, 5, topTerm} {
		still(x, ask(1, 0, term, 9, term))
	}
	x.ticks(2, 0)
	still(x, ask(1, 0, topTerm, 9, 9))
}

// TestLogsOfThoseThatAsk: not behind the core's own, by the last term and then by the last number.
func TestLogsOfThoseThatAsk(t *testing.T) {
	for _, h := range []api.Hard{
		logged(5, en(2, "a"), en(4, "b"), en(4, "c")),
		based(5, 3, 4, "s"),
		based(5, 2, 3, "s", en(4, "")),
	} {
		for _, c := range []struct {
			index, at int
			yes       bool
		}{
			{3, 4, true}, {4, 4, true}, {200, 4, true}, {topIndex, 4, true},
			{2, 4, false}, {1, 4, false},
			{1, 5, true}, {3, 5, true}, {9, 5, true}, {1, 6, true},
			{3, 3, false}, {4, 3, false}, {topIndex, 3, false}, {9, 1, false}, {0, 0, false},
		} {
			for _, term := range []int{5, 6} {
				if c.at > term {
					continue
				}
				x := begin(t, 0, h, 6)
				x.ticks(3, 0)
				x.take(ask(1, 0, term, c.index, c.at))
				x.says(vote(0, 1, term, c.yes))
				if c.yes {
					x.voted(term, 1)
					x.is(follows, -1, h.Base, 3, 16, 7)
				} else {
					x.voted(term, -1)
					x.is(follows, -1, h.Base, 3, 13, 7)
				}
			}
		}
	}
	// without any entries each log will do
	for _, m := range []api.Letter{ask(1, 0, 1, 0, 0), ask(1, 0, 1, 1, 1), ask(1, 0, 1, topIndex, 1)} {
		x := begin(t, 0, fresh(), 0)
		x.take(m)
		x.says(vote(0, 1, 1, true))
	}
}

// TestOneVoteATerm: it goes to one node, and again to that one.
func TestOneVoteATerm(t *testing.T) {
	x := begin(t, 0, fresh(allNodes), 4)
	x.take(ask(3, 0, 2, 0, 0))
	x.voted(2, 3)
	x.says(vote(0, 3, 2, true))
	for from := 1; from <= topNode; from++ {
		x.tick(0)
		x.take(ask(from, 0, 2, 7, 2))
		x.voted(2, 3)
		x.says(vote(0, from, 2, from == 3))
	}
	x.is(follows, -1, 0, 0, 11, allNodes)
	// to the same one, but not with a log that is behind
	y := begin(t, 0, api.Hard{Term: 2, Vote: 3, Members: 15, Log: []api.Entry{en(1, ""), en(1, "")}}, 4)
	y.tick(0)
	y.take(ask(3, 0, 2, 1, 1))
	y.says(vote(0, 3, 2, false))
	y.is(follows, -1, 0, 2, 13, 15)
	y.voted(2, 3)
	y.take(ask(3, 0, 2, 2, 1))
	y.says(vote(0, 3, 2, true))
	y.is(follows, -1, 0, 2, 14, 15)
	// the vote of a Term above is free, though it isn't given
	y.take(ask(2, 0, 3, 1, 1))
	y.says(vote(0, 2, 3, false))
	y.voted(3, -1)
	y.take(ask(1, 0, 3, 2, 1))
	y.says(vote(0, 1, 3, true))
	y.voted(3, 1)
	// one that stands, or stood, has given its own
	z := standing(t, fresh())
	z.take(ask(1, 0, 1, 9, 1))
	z.says(vote(0, 1, 1, false))
	z.is(stands, -1, 0, 0, 10, 7)
	z.voted(1, 0)
	z.take(appends(2, 0, 1, 0, 0, 0))
	z.ticks(9, 0)
	z.out()
	still(z, ask(1, 0, 1, 9, 1))
	z = begin(t, 0, z.c.Hard(), 0)
	z.take(ask(1, 0, 1, 9, 1))
	z.says(vote(0, 1, 1, false))
}

// TestACandidateHearsOfATermAbove, and votes in it.
func TestACandidateHearsOfATermAbove(t *testing.T) {
	x := standing(t, logged(1, en(1, "a")))
	x.tick(0)
	x.take(ask(1, 0, 3, 1, 1))
	x.says(vote(0, 1, 3, true))
	x.is(follows, -1, 0, 1, 10, 7)
	x.voted(3, 1)
	x.take(vote(1, 0, 3, true), vote(2, 0, 3, true))
	x.is(follows, -1, 0, 1, 10, 7)
	x = standing(t, logged(1, en(1, "a")))
	x.tick(0)
	x.take(ask(1, 0, 3, 0, 0))
	x.says(vote(0, 1, 3, false))
	x.is(follows, -1, 0, 1, 9, 7)
	x.voted(3, -1)
}

// TestVotes: each node's counts once, and only of those that belong.
func TestVotes(t *testing.T) {
	x := standing(t, fresh(31))
	x.take(vote(1, 0, 1, true), vote(1, 0, 1, true), vote(1, 0, 1, true))
	x.is(stands, -1, 0, 0, 10, 31)
	x.take(vote(5, 0, 1, true), vote(6, 0, 1, true))
	x.is(stands, -1, 0, 0, 10, 31)
	x.take(vote(2, 0, 1, false), vote(3, 0, 1, false), vote(4, 0, 1, false))
	x.is(stands, -1, 0, 0, 10, 31)
	x.says()
	// one that said no may say yes
	x.take(vote(2, 0, 1, true))
	x.is(leads, 0, 0, 1, beats, 31)
	x.out()
	still(x, vote(3, 0, 1, true))
	still(x, vote(3, 0, 1, false))
}

// TestHowManyVotes: more than half of each number of nodes.
func TestHowManyVotes(t *testing.T) {
	for n := 2; n <= topNode+1; n++ {
		x := standing(t, fresh(1<<n-1))
		for f := 1; f <= n/2; f++ {
			x.is(stands, -1, 0, 0, 10, 1<<n-1)
			x.take(vote(f, 0, 1, true))
		}
		x.is(leads, 0, 0, 1, beats, 1<<n-1)
	}
	// one that doesn't belong needs more than half of the others
	x := standing(t, logged(1, of(1, 30)))
	x.take(vote(1, 0, 2, true), vote(2, 0, 2, true), vote(5, 0, 2, true))
	x.is(stands, -1, 0, 1, 10, 30)
	x.take(vote(4, 0, 2, true))
	x.is(leads, 0, 0, 2, beats, 30)
}

// TestVotesOfOtherTerms count for nothing; one of a Term above ends the core's standing.
func TestVotesOfOtherTerms(t *testing.T) {
	h := fresh()
	h.Term = 3
	x := standing(t, h)
	still(x, vote(1, 0, 3, true))
	still(x, vote(1, 0, 1, true))
	x.take(vote(1, 0, 5, true))
	x.is(follows, -1, 0, 0, 10, 7)
	x.voted(5, -1)
	still(x, vote(1, 0, 5, true))
	still(x, vote(2, 0, 4, true))
	x.says()
	// who stood, and hears a leader, is chosen no more
	x = standing(t, fresh())
	x.take(appends(2, 0, 1, 0, 0, 0))
	x.out()
	still(x, vote(1, 0, 1, true))
	x = standing(t, fresh())
	x.take(install(2, 0, 1, 4, 1, 7, 0, 2, "a"))
	x.out()
	still(x, vote(1, 0, 1, true))
}
