package raft_test

import (
	"testing"
)

// P22.5: MAck.

// TestAcksThatSayYes: what a node has counts once, and it is sent what stands behind.
func TestAcksThatSayYes(t *testing.T) {
	x := leading(t, logged(1, numbered(12, 1)...), 1)
	l := append(numbered(12, 1), en(2, ""))
	x.out()
	x.take(ack(1, 0, 2, true, 3))
	x.says(appends(0, 1, 2, 3, 1, 0, l[3:11]...))
	still(x, ack(1, 0, 2, true, 3))
	still(x, ack(1, 0, 2, true, 2))
	still(x, ack(1, 0, 2, true, 0))
	x.take(ack(1, 0, 2, true, 4))
	x.says(appends(0, 1, 2, 4, 1, 0, l[4:12]...))
	x.take(ack(1, 0, 2, true, 12))
	x.says(appends(0, 1, 2, 12, 1, 0, l[12]))
	still(x, ack(1, 0, 2, true, 14))
	still(x, ack(1, 0, 2, true, topIndex))
	still(x, ack(1, 0, 2, false, 14))
	still(x, ack(1, 0, 2, false, topIndex))
	x.is(leads, 0, 0, 13, beats, 7)
	x.take(ack(1, 0, 2, true, 13))
	x.says()
	x.is(leads, 0, 13, 13, beats, 7)
	// a Match of 0 is above none
	still(x, ack(2, 0, 2, true, 0))
	x.take(ack(2, 0, 2, true, 1))
	x.says(appends(0, 2, 2, 1, 1, 13, l[1:9]...))
	// what is said of an elder one is late
	still(x, ack(2, 0, 1, true, 13))
	still(x, ack(2, 0, 1, false, 0))
}

// TestAcksThatSayNo: Next goes one back, or further, but not to what the node has.
func TestAcksThatSayNo(t *testing.T) {
	l := append(numbered(12, 1), en(2, ""))
	for match := 0; match <= 13; match++ {
		for index := 0; index <= 13; index++ {
			x := leading(t, logged(1, numbered(12, 1)...), 1)
			next := 13
			if match > 0 {
				x.take(ack(2, 0, 2, true, match))
				next = match + 1
			}
			x.out()
			commit := x.c.View().Commit
			x.take(ack(2, 0, 2, false, index))
			next = max(min(next-1, index+1), match+1)
			at := 1
			switch next {
			case 1:
				at = 0
			case 14:
				at = 2
			}
			x.says(appends(0, 2, 2, next-1, at, commit, l[next-1:min(13, next-1+longBatch)]...))
			// once more, one further back
			x.take(ack(2, 0, 2, false, index))
			if next = max(min(next-1, index+1), match+1); next == 1 {
				at = 0
			}
			x.says(appends(0, 2, 2, next-1, at, commit, l[next-1:min(13, next-1+longBatch)]...))
			if match == 0 {
				// who comes to have less than was thought is sent what it lacks
				x.take(ack(2, 0, 2, true, 2))
				x.says(appends(0, 2, 2, 2, 1, commit, l[2:2+longBatch]...))
				x.take(ack(2, 0, 2, false, 0))
				x.says(appends(0, 2, 2, 2, 1, commit, l[2:2+longBatch]...))
			}
		}
	}
}

// TestAcksToOneThatDoesNotLead are passed over, but for a Term above.
func TestAcksToOneThatDoesNotLead(t *testing.T) {
	for _, x := range roles(t)[:3] {
		for _, yes := range []bool{true, false} {
			for index := 0; index < 8; index++ {
				still(x, ack(1, 0, 5, yes, index))
				still(x, ack(1, 0, 4, yes, index))
			}
		}
	}
	x := leading(t, fresh(), 1)
	x.out()
	x.take(ack(1, 0, 2, true, 1))
	x.is(follows, -1, 0, 1, beats, 7)
	x.voted(2, -1)
	still(x, ack(1, 0, 2, true, 1))
	x.says()
}

// TestAcksOfOneThatDoesNotBelong are answered, but make nothing sure.
func TestAcksOfOneThatDoesNotBelong(t *testing.T) {
	x := leading(t, logged(1, en(1, "a")), 1)
	x.out()
	x.take(ack(5, 0, 2, true, 1))
	x.says(appends(0, 5, 2, 1, 1, 0, en(2, "")))
	x.take(ack(5, 0, 2, true, 2), ack(4, 0, 2, true, 2), ack(3, 0, 2, true, 2), ack(6, 0, 2, true, 2))
	x.says()
	x.is(leads, 0, 0, 2, beats, 7)
	x.take(ack(1, 0, 2, true, 2))
	x.is(leads, 0, 2, 2, beats, 7)
}

// TestAnAckBringsBackThePieces to their beginning: Off is 0 again.
func TestAnAckBringsBackThePieces(t *testing.T) {
	snap := snapshot(1300)
	x := leading(t, based(1, 5, 1, snap, en(1, "f")), 1)
	x.out()
	x.take(ack(2, 0, 2, false, 0))
	x.says(install(0, 2, 2, 5, 1, 7, 0, 1300, snap[:600]))
	x.take(more(2, 0, 2, 5, 600))
	x.says(install(0, 2, 2, 5, 1, 7, 600, 1300, snap[600:1200]))
	// a refusal that comes late sends the same piece again
	x.take(ack(2, 0, 2, false, 0))
	x.says(install(0, 2, 2, 5, 1, 7, 600, 1300, snap[600:1200]))
	x.take(ack(2, 0, 2, true, 3))
	x.says(install(0, 2, 2, 5, 1, 7, 0, 1300, snap[:600]))
	x.take(more(2, 0, 2, 5, 1200))
	x.says(install(0, 2, 2, 5, 1, 7, 1200, 1300, snap[1200:]))
	x.take(ack(2, 0, 2, true, 5))
	x.says(appends(0, 2, 2, 5, 1, 5, en(1, "f"), en(2, "")))
	x.take(ack(2, 0, 2, false, 0))
	x.says(appends(0, 2, 2, 5, 1, 5, en(1, "f"), en(2, "")))
}
