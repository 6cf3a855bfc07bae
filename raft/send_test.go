package raft_test

import (
	"strconv"
	"strings"
	"testing"

	"impost/api"
)

// P22.4

// numbered is n entries of one term, each with data of its own.
func numbered(n, term int) []api.Entry {
	var l []api.Entry
	for k := range n {
		l = append(l, en(term, "e"+strconv.Itoa(k)))
	}
	return l
}

// snapshot is n bytes of which no two pieces are alike.
func snapshot(n int) string {
	var b strings.Builder
	for k := 0; b.Len() < n; k++ {
		b.WriteString(strconv.Itoa(k) + ",")
	}
	return b.String()[:n]
}

// TestEntriesThatAreSent: those from Next on, as many as a letter takes.
func TestEntriesThatAreSent(t *testing.T) {
	for had := 1; had < 20; had++ {
		l := append(numbered(had, 1), en(2, ""))
		for next := 1; next <= had; next++ {
			x := leading(t, logged(1, l[:had]...), 1)
			x.out()
			x.take(ack(2, 0, 2, false, next-1))
			behind := l[next-1:]
			x.says(appends(0, 2, 2, next-1, min(next-1, 1), 0, behind[:min(longBatch, len(behind))]...))
		}
	}
}

// TestHowManyEntriesAreSent: none, one, just as many as a letter takes, and more.
func TestHowManyEntriesAreSent(t *testing.T) {
	for _, n := range []int{0, 1, longBatch - 1, longBatch, longBatch + 1, 2 * longBatch, 50} {
		x := leading(t, fresh(), 1)
		x.take(ack(2, 0, 1, true, 1))
		x.out()
		var data []string
		var l []api.Entry
		for k := range n {
			data = append(data, "e"+strconv.Itoa(k))
			l = append(l, en(1, data[k]))
		}
		x.propose(data...)
		x.out()
		x.ticks(3, 0)
		m := x.out()
		if len(m) != 2 || !sameLetter(m[1], appends(0, 2, 1, 1, 1, 1, l[:min(n, longBatch)]...)) {
			x.fail("sent %s", brief(m))
		}
		// the rest comes with each answer
		for have := 1 + min(n, longBatch); have < n+1; have += longBatch {
			x.take(ack(2, 0, 1, true, have))
			x.says(appends(0, 2, 1, have, 1, have, l[have-1:min(n, have-1+longBatch)]...))
		}
		x.take(ack(2, 0, 1, true, n+1))
		x.says()
	}
}

// TestWhatStandsBesideEntries: the number ahead of them, its term, and Commit.
func TestWhatStandsBesideEntries(t *testing.T) {
	x := leading(t, based(7, 9, 4, "s", en(5, "a"), of(6, 15), en(6, "c")), 1, 2)
	own := en(8, "")
	x.says(appends(0, 1, 8, 12, 6, 9, own), appends(0, 2, 8, 12, 6, 9, own), appends(0, 3, 8, 12, 6, 9, own))
	x.take(ack(3, 0, 8, false, 11))
	x.says(appends(0, 3, 8, 11, 6, 9, en(6, "c"), own))
	x.take(ack(3, 0, 8, false, 10))
	x.says(appends(0, 3, 8, 10, 5, 9, of(6, 15), en(6, "c"), own))
	// Next is one above Base: the term ahead is the snapshot's
	x.take(ack(3, 0, 8, false, 9))
	x.says(appends(0, 3, 8, 9, 4, 9, en(5, "a"), of(6, 15), en(6, "c"), own))
	// at Base, and one below: the snapshot
	x.take(ack(3, 0, 8, false, 8))
	x.says(install(0, 3, 8, 9, 4, 7, 0, 1, "s"))
	x.take(ack(3, 0, 8, false, 7))
	x.says(install(0, 3, 8, 9, 4, 7, 0, 1, "s"))
	x.take(ack(3, 0, 8, false, 0))
	x.says(install(0, 3, 8, 9, 4, 7, 0, 1, "s"))
	x.take(ack(1, 0, 8, true, 13), ack(2, 0, 8, true, 13))
	x.is(leads, 0, 13, 13, beats, 15)
	x.says()
	x.ticks(3, 0)
	x.says(appends(0, 1, 8, 13, 8, 13), appends(0, 2, 8, 13, 8, 13), install(0, 3, 8, 9, 4, 7, 0, 1, "s"))
}

// TestNextAroundBase: with Next one above Base entries are sent, with Next at Base or below the snapshot.
func TestNextAroundBase(t *testing.T) {
	for _, behind := range []int{0, 1, 5} {
		for index := range 14 + behind {
			x := leading(t, based(1, 12, 1, "snap", numbered(behind, 1)...), 1)
			x.out()
			l := append(numbered(behind, 1), en(2, ""))
			x.take(ack(2, 0, 2, false, index))
			next := min(index+1, 12+behind)
			if next <= 12 {
				x.says(install(0, 2, 2, 12, 1, 7, 0, 4, "snap"))
			} else {
				x.says(appends(0, 2, 2, next-1, 1, 12, l[next-13:]...))
			}
		}
	}
}

// TestPiecesThatAreSent, from each Off on.
func TestPiecesThatAreSent(t *testing.T) {
	for _, size := range []int{1, 2, longPiece - 1, longPiece, longPiece + 1, 2*longPiece - 1, 2 * longPiece, 2*longPiece + 1, longImage} {
		snap := snapshot(size)
		h := based(3, 5, 2, snap)
		h.Members = 15
		x := leading(t, h, 1, 2)
		x.out()
		x.take(ack(3, 0, 4, false, 2))
		x.says(install(0, 3, 4, 5, 2, 15, 0, size, snap[:min(size, longPiece)]))
		for _, off := range []int{1, 2, 599, 600, 601, size - 601, size - 600, size - 599, size - 2, size - 1, 0} {
			if off < 0 || off >= size || off == 0 && size == 1 {
				continue
			}
			x.take(more(3, 0, 4, 5, off))
			x.ticks(3, 0)
			l := x.out()
			if len(l) != 4 && len(l) != 3 {
				x.fail("sent %s", brief(l))
			}
			for _, m := range l {
				if m.To == 3 && !sameLetter(m, install(0, 3, 4, 5, 2, 15, off, size, snap[off:min(size, off+longPiece)])) {
					x.fail("sent %s", brief(m))
				}
			}
		}
	}
}

// TestMembersThatAreSent are those of the snapshot, whoever belongs now.
func TestMembersThatAreSent(t *testing.T) {
	h := based(3, 5, 2, "abc", of(3, 15), en(3, ""))
	x := leading(t, h, 1, 2)
	x.is(leads, 0, 5, 8, beats, 15)
	x.out()
	x.take(ack(3, 0, 4, false, 0))
	x.says(install(0, 3, 4, 5, 2, 7, 0, 3, "abc"))
	x.take(ack(1, 0, 4, true, 8), ack(2, 0, 4, true, 8))
	x.compact(6, "defg")
	x.out()
	x.ticks(3, 0)
	x.says(appends(0, 1, 4, 8, 4, 8), appends(0, 2, 4, 8, 4, 8), install(0, 3, 4, 6, 3, 15, 0, 4, "defg"))
}

// TestToTheOthers: by rising numbers, without the core and who doesn't belong.
func TestToTheOthers(t *testing.T) {
	for members := 1; members <= allNodes; members++ {
		for _, id := range []int{0, 3, topNode} {
			l := listed(members)
			h := fresh(members)
			x := begin(t, id, h, 0)
			x.ticks(10, 0)
			x.out()
			for _, f := range l {
				if f != id {
					x.take(vote(f, id, 1, true))
				}
			}
			if x.c.View().Role != leads {
				continue
			}
			x.out()
			x.ticks(3, 0)
			var to []int
			for _, m := range x.out() {
				to = append(to, m.To)
			}
			k := 0
			for _, f := range l {
				if f == id {
					continue
				}
				if k >= len(to) || to[k] != f {
					t.Fatal(members, id, to)
				}
				k++
			}
			if k != len(to) {
				t.Fatal(members, id, to)
			}
		}
	}
}
