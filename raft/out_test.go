package raft_test

import (
	"slices"
	"testing"

	"impost/api"
	"impost/raft"
)

// P22.10

// bare is a raft.Core without a model beside it, so that nothing asks for what it sent.
func bare(t *testing.T, id int, h api.Hard) *raft.Core {
	t.Helper()
	c, e := raft.New(id, h, 0)
	if c == nil || e != api.OK {
		t.Fatal(c, e)
	}
	return c
}

func outIs(t *testing.T, c *raft.Core, want ...api.Letter) {
	t.Helper()
	if l := c.Out(); !slices.EqualFunc(l, want, sameLetter) {
		t.Fatalf("sent %s, not %s", brief(l), brief(want))
	}
}

// led is such a core, which leads 0, 1 and 2.
func led(t *testing.T, h api.Hard) *raft.Core {
	t.Helper()
	c := bare(t, 0, h)
	for range waits {
		c.Tick(0)
	}
	c.Take(vote(1, 0, h.Term+1, true))
	if c.View().Role != leads {
		t.Fatal(c.View())
	}
	c.Out()
	return c
}

// TestOutTellsAllOnce: what was sent since the last Out, the oldest ahead.
func TestOutTellsAllOnce(t *testing.T) {
	c := bare(t, 0, logged(1, en(1, "a")))
	outIs(t, c)
	for range waits {
		c.Tick(0)
	}
	c.Take(ask(1, 0, 2, 9, 1))
	c.Take(vote(2, 0, 2, true))
	c.Take(ack(1, 0, 2, true, 2))
	c.Take(ack(2, 0, 2, false, 1))
	// the Term is the one that the core had then
	c.Take(appends(1, 0, 4, 5, 4, 0))
	c.Take(ask(2, 0, 3, 9, 1))
	c.Hard()
	c.View()
	own := en(2, "")
	outIs(t, c,
		ask(0, 1, 2, 1, 1), ask(0, 2, 2, 1, 1), vote(0, 1, 2, false),
		appends(0, 1, 2, 1, 1, 0, own), appends(0, 2, 2, 1, 1, 0, own),
		appends(0, 2, 2, 0, 0, 2, en(1, "a"), own),
		ack(0, 1, 4, false, 2),
	)
	outIs(t, c)
	outIs(t, c)
	c.Take(appends(1, 0, 4, 0, 0, 0))
	outIs(t, c, ack(0, 1, 4, true, 0))
	outIs(t, c)
}

// TestWhatWasSentStays as it was, whatever becomes of the log till Out asks for it.
func TestWhatWasSentStays(t *testing.T) {
	c := led(t, fresh())
	c.Propose("x", "y")
	c.Take(appends(1, 0, 9, 0, 0, 1, en(2, "X"), en(3, "Y"), en(4, "Z")))
	c.Compact(1, "s")
	own := []api.Entry{en(1, ""), en(1, "x"), en(1, "y")}
	outIs(t, c, appends(0, 1, 1, 0, 0, 0, own...), appends(0, 2, 1, 0, 0, 0, own...), ack(0, 1, 9, true, 3))
	if h := c.Hard(); !slices.Equal(h.Log, []api.Entry{en(3, "Y"), en(4, "Z")}) {
		t.Error(h)
	}
}

// TestHardAndViewAreAsked, as often as one likes, and change nothing.
func TestHardAndViewAreAsked(t *testing.T) {
	c := led(t, based(3, 5, 2, "s", of(3, 3), en(3, "g")))
	for range 3 {
		want := api.Hard{Term: 4, Vote: 0, Base: 5, BaseTerm: 2, Members: 7, Snap: "s", Log: []api.Entry{of(3, 3), en(3, "g"), en(4, "")}}
		if h := c.Hard(); !sameHard(h, want) {
			t.Errorf("%s, not %s", brief(h), brief(want))
		}
		if v := c.View(); v != (raft.View{Role: leads, Leads: 0, Commit: 5, Last: 8, Left: beats, Members: 3}) {
			t.Errorf("%+v", v)
		}
	}
}
