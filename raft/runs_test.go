package raft_test

import (
	"testing"

	"impost/api"
	"impost/raft"
)

// The table 'Runs'.
func TestRuns(t *testing.T) {
	a, b := begin(t, 0, fresh(), 0), begin(t, 1, fresh(), 5)
	begin(t, 2, fresh(), 5).is(follows, -1, 0, 0, 15, 7)
	a.ticks(10, 0)
	a.says(ask(0, 1, 1, 0, 0), ask(0, 2, 1, 0, 0))
	b.take(ask(0, 1, 1, 0, 0))
	b.says(vote(1, 0, 1, true))
	a.take(vote(1, 0, 1, true))
	a.is(leads, 0, 0, 1, beats, 7)
	a.says(appends(0, 1, 1, 0, 0, 0, en(1, "")), appends(0, 2, 1, 0, 0, 0, en(1, "")))
	b.take(appends(0, 1, 1, 0, 0, 0, en(1, "")))
	b.says(ack(1, 0, 1, true, 1))
	a.take(ack(1, 0, 1, true, 1))
	a.is(leads, 0, 1, 1, beats, 7)
	a.says()
	if n, ok := a.propose("x"); n != 2 || !ok {
		t.Error(n, ok)
	}
	a.says(appends(0, 1, 1, 1, 1, 1, en(1, "x")), appends(0, 2, 1, 0, 0, 1, en(1, ""), en(1, "x")))
	if n, ok := a.change(15); n != 3 || !ok {
		t.Error(n, ok)
	}
	if n, ok := a.change(3); n != 0 || ok {
		t.Error(n, ok)
	}
	a.is(leads, 0, 1, 3, beats, 15)
	if e := a.compact(1, "s"); e != api.OK {
		t.Error(e)
	}
	if e := a.compact(1, "s"); e != api.ErrArg {
		t.Error(e)
	}
	a.is(leads, 0, 1, 3, beats, 15)
}

// The chapter's numbers, and the roles' own.
func TestNumbers(t *testing.T) {
	if raft.Wait != 10 || raft.Beat != 3 || raft.Long != 120 {
		t.Error(raft.Wait, raft.Beat, raft.Long)
	}
	if raft.Follower != 1 || raft.Candidate != 2 || raft.Leader != 3 {
		t.Error(raft.Follower, raft.Candidate, raft.Leader)
	}
}
