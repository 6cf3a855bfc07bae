package raft_test

import (
	"testing"

	"impost/api"
)

// P22.3

// TestLeading: the first entries that a leader sends are those of its own Term, to all others.
func TestLeading(t *testing.T) {
	h := fresh(31)
	h.Term, h.Log = 4, []api.Entry{en(2, "a"), en(4, "b")}
	x := standing(t, h)
	x.tick(0)
	x.take(vote(3, 0, 5, true))
	x.is(stands, -1, 0, 2, 9, 31)
	x.says()
	x.take(vote(1, 0, 5, true))
	x.is(leads, 0, 0, 3, beats, 31)
	x.voted(5, 0)
	x.logs(en(2, "a"), en(4, "b"), en(5, ""))
	own := en(5, "")
	x.says(appends(0, 1, 5, 2, 4, 0, own), appends(0, 2, 5, 2, 4, 0, own), appends(0, 3, 5, 2, 4, 0, own), appends(0, 4, 5, 2, 4, 0, own))
}

// TestNextOfEachNode is the same at first, of those that don't belong as well: a refusal goes one back.
func TestNextOfEachNode(t *testing.T) {
	l := []api.Entry{en(1, "a"), en(1, "b"), en(1, "c")}
	for f := 1; f <= topNode; f++ {
		x := leading(t, logged(1, l...), 1)
		x.out()
		x.take(ack(f, 0, 2, false, 3))
		x.says(appends(0, f, 2, 2, 1, 0, en(1, "c"), en(2, "")))
		x.take(ack(f, 0, 2, false, 3))
		x.says(appends(0, f, 2, 1, 1, 0, en(1, "b"), en(1, "c"), en(2, "")))
	}
}

// TestNothingIsKnownOfAnEarlierLead: what a node had, and which piece it was sent, counts in one Term alone.
func TestNothingIsKnownOfAnEarlierLead(t *testing.T) {
	x := leading(t, based(1, 5, 1, text(700), en(1, "a")), 1)
	x.take(ack(1, 0, 2, true, 7))
	x.take(ack(2, 0, 2, false, 2), more(2, 0, 2, 5, 600))
	x.is(leads, 0, 7, 7, beats, 7)
	x.take(appends(2, 0, 3, 7, 2, 7))
	x.is(follows, 2, 7, 7, 10, 7)
	x.ticks(10, 0)
	x.out()
	x.take(vote(1, 0, 4, true))
	x.is(leads, 0, 7, 8, beats, 7)
	x.says(appends(0, 1, 4, 7, 2, 7, en(4, "")), appends(0, 2, 4, 7, 2, 7, en(4, "")))
	// Match is 0: an ack of the number 7 is above it, and one that says no goes back below 7
	x.take(ack(1, 0, 4, false, 3))
	x.says(install(0, 1, 4, 5, 1, 7, 0, 700, text(600)))
	x.take(ack(2, 0, 4, false, 0))
	x.says(install(0, 2, 4, 5, 1, 7, 0, 700, text(600)))
}

func TestLeadingWithAFullLog(t *testing.T) {
	// one below: its own entry is the last that there is room for
	x := leading(t, logged(1, run(longLog-1, 1)...), 1)
	x.is(leads, 0, 0, longLog, beats, 7)
	x.says(appends(0, 1, 2, longLog-1, 1, 0, en(2, "")), appends(0, 2, 2, longLog-1, 1, 0, en(2, "")))
	// none: the others are sent what there is, and nothing of its own Term can become sure
	x = leading(t, logged(1, run(longLog, 1)...), 1)
	x.is(leads, 0, 0, longLog, beats, 7)
	x.logs(run(longLog, 1)...)
	x.says(appends(0, 1, 2, longLog, 1, 0), appends(0, 2, 2, longLog, 1, 0))
	x.take(ack(1, 0, 2, true, longLog), ack(2, 0, 2, true, longLog))
	x.is(leads, 0, 0, longLog, beats, 7)
	x.says()
	// behind a snapshot likewise
	x = leading(t, based(1, 50, 1, "s", run(longLog-1, 1)...), 1)
	x.is(leads, 0, 50, 50+longLog, beats, 7)
	x = leading(t, based(1, 50, 1, "s", run(longLog, 1)...), 1)
	x.is(leads, 0, 50, 50+longLog, beats, 7)
	// an only one
	h := logged(1, run(longLog, 1)...)
	h.Members = 1
	leading(t, h).is(leads, 0, 0, longLog, beats, 1)
	h.Log = h.Log[1:]
	leading(t, h).is(leads, 0, longLog, longLog, beats, 1)
}

func TestLeadingAtTheLastNumber(t *testing.T) {
	x := leading(t, based(1, topIndex-3, 1, "s", run(2, 1)...), 1)
	x.is(leads, 0, topIndex-3, topIndex, beats, 7)
	x.says(appends(0, 1, 2, topIndex-1, 1, topIndex-3, en(2, "")), appends(0, 2, 2, topIndex-1, 1, topIndex-3, en(2, "")))
	x = leading(t, based(1, topIndex-3, 1, "s", run(3, 1)...), 1)
	x.is(leads, 0, topIndex-3, topIndex, beats, 7)
	x.logs(run(3, 1)...)
	x.says(appends(0, 1, 2, topIndex, 1, topIndex-3), appends(0, 2, 2, topIndex, 1, topIndex-3))
	x = leading(t, based(1, topIndex, 1, "s"), 1)
	x.is(leads, 0, topIndex, topIndex, beats, 7)
	x.says(appends(0, 1, 2, topIndex, 1, topIndex), appends(0, 2, 2, topIndex, 1, topIndex))
	x = leading(t, based(1, topIndex-1, 1, "s"), 1)
	x.logs(en(2, ""))
}

// TestItsOwnMatch is the last number: an entry that only it and one of two others have is had by most.
func TestItsOwnMatch(t *testing.T) {
	x := leading(t, logged(1, en(1, "a")), 2)
	x.take(ack(1, 0, 2, true, 2))
	x.is(leads, 0, 2, 2, beats, 7)
	// an only one needs nobody: what it had of elder Terms becomes sure with its own entry
	h := based(3, 4, 2, "s", en(2, "a"), en(3, "b"))
	h.Members = 1
	x = leading(t, h)
	x.is(leads, 0, 7, 7, beats, 1)
	x.logs(en(2, "a"), en(3, "b"), en(4, ""))
	x.says()
}

// TestLeadingWithoutBelonging: the seventh of the ten examples: it leads, makes sure that it doesn't belong, and steps down.
func TestLeadingWithoutBelonging(t *testing.T) {
	h := logged(1, en(1, ""), of(1, 2))
	h.Members = 3
	x := standing(t, h)
	x.is(stands, -1, 0, 2, 10, 2)
	x.take(vote(1, 0, 2, true))
	x.is(leads, 0, 0, 3, beats, 2)
	x.says(appends(0, 1, 2, 2, 1, 0, en(2, "")))
	x.ticks(3, 0)
	x.says(appends(0, 1, 2, 2, 1, 0, en(2, "")))
	// its own Match is no member's
	x.take(ack(1, 0, 2, true, 2))
	x.is(leads, 0, 0, 3, beats, 2)
	x.out()
	x.take(ack(1, 0, 2, true, 3))
	x.is(follows, -1, 3, 3, 10, 2)
	x.says()
	x.ticks(50, 0)
	x.says()
	x.is(follows, -1, 3, 3, 10, 2)
}
