package session

import (
	"math/rand"
	"slices"
	"testing"

	"impost/api"
)

// P13.5

// keeping is a Keep that must not be refused.
func keeping(t *testing.T, l []api.Session, id, seq int, r api.Reply) []api.Session {
	t.Helper()
	m, e := Keep(l, id, seq, r)
	if e != api.OK {
		t.Fatalf("Keep(%v, %d, %d): %d", l, id, seq, e)
	}
	return m
}

// TestTheOldReplyAgain keeps rising numbers, and asks for all of them behind each.
func TestTheOldReplyAgain(t *testing.T) {
	l := some()
	seqs := []int{6, 7, 9, 100, 1 << 32, cap40 - 1, cap40}
	for i, seq := range seqs {
		l = keeping(t, l, 3, seq, reply(seq))
		for range 3 {
			if got, old, e := Look(l, 3, seq); got != reply(seq) || !old || e != api.OK {
				t.Fatalf("%d: %v, %v, %d", seq, got, old, e)
			}
			if m, e := Keep(l, 3, seq, api.Reply{Number: 99}); m != nil || e != api.ErrTaken {
				t.Fatalf("%d again: %v, %d", seq, m, e)
			}
		}
		for _, older := range append([]int{1, 2, 4, 5, 8}, seqs[:i]...) {
			if older >= seq {
				continue
			}
			if got, old, e := Look(l, 3, older); got != (api.Reply{}) || old || e != api.ErrStale {
				t.Fatalf("%d behind %d: %v, %v, %d", older, seq, got, old, e)
			}
			if m, e := Keep(l, 3, older, reply(older)); m != nil || e != api.ErrStale {
				t.Fatalf("%d kept behind %d: %v, %d", older, seq, m, e)
			}
		}
	}
}

// TestTheGreatestNumberIsTheLast: behind MaxSeq there is no number that a session could keep.
func TestTheGreatestNumberIsTheLast(t *testing.T) {
	l := keeping(t, of(fresher(1)), 1, cap40, reply(4))
	for _, seq := range []int{far, 0, 1, cap40 - 1, cap40, cap40 + 1, most} {
		if m, e := Keep(l, 1, seq, reply(5)); m != nil || e == api.OK {
			t.Errorf("%d: %v, %d", seq, m, e)
		}
	}
	if got, old, e := Look(l, 1, cap40); got != reply(4) || !old || e != api.OK {
		t.Errorf("%v, %v, %d", got, old, e)
	}
}

// TestTheZeroReplyIsKeptToo: it is told as old, though what is new looks the same but for that.
func TestTheZeroReplyIsKeptToo(t *testing.T) {
	l := keeping(t, of(fresher(1), fresher(2)), 1, 1, api.Reply{})
	if got, old, e := Look(l, 1, 1); got != (api.Reply{}) || !old || e != api.OK || !Right(l) {
		t.Errorf("%v, %v, %d", got, old, e)
	}
	if m, e := Keep(l, 1, 1, reply(1)); m != nil || e != api.ErrTaken {
		t.Errorf("%v, %d", m, e)
	}
	if got, old, e := Look(l, 2, 1); got != (api.Reply{}) || old || e != api.OK {
		t.Errorf("of the other one: %v, %v, %d", got, old, e)
	}
}

// TestOthersStay does each call of each session, and holds all the others against what they were.
func TestOthersStay(t *testing.T) {
	for _, l := range [][]api.Session{some(), many(7), many(8)} {
		for _, s := range l {
			joined, _ := Join(l, s.Id+1)
			left, _ := Leave(l, s.Id)
			told, _ := Keep(l, s.Id, cap40, reply(8))
			for i, m := range [][]api.Session{joined, left, told} {
				for _, o := range l {
					if m == nil || i > 0 && o.Id == s.Id {
						continue
					}
					if j := at(m, o.Id); j < 0 || m[j] != o {
						t.Errorf("call %d of %d: %v of %v", i, s.Id, m, o)
					}
				}
			}
		}
	}
}

// TestWhoComesAgainBeginsAnew: of what a session kept ahead of its leaving nothing is told, and all numbers are new.
func TestWhoComesAgainBeginsAnew(t *testing.T) {
	for _, l := range [][]api.Session{some(), many(8)} {
		for _, s := range l {
			left, e := Leave(l, s.Id)
			if e != api.OK {
				t.Fatal(s, e)
			}
			for _, seq := range []int{1, s.Last, s.Last + 1} {
				if got, old, e := Look(left, s.Id, seq); got != (api.Reply{}) || old || e != api.ErrGone {
					t.Errorf("%d, which left: %v, %v, %d", s.Id, got, old, e)
				}
				if m, e := Keep(left, s.Id, seq, reply(1)); m != nil || e != api.ErrGone {
					t.Errorf("%d, which left: %v, %d", s.Id, m, e)
				}
			}
			again, e := Join(left, s.Id)
			want := slices.Clone(l)
			want[at(l, s.Id)] = fresher(s.Id)
			if e != api.OK || !slices.Equal(again, want) {
				t.Fatalf("%d, again: %v, %d", s.Id, again, e)
			}
			for _, seq := range []int{1, max(1, s.Last), cap40} {
				if got, old, e := Look(again, s.Id, seq); got != (api.Reply{}) || old || e != api.OK {
					t.Errorf("%d, again: %v, %v, %d", s.Id, got, old, e)
				}
				keeping(t, again, s.Id, seq, reply(2))
			}
		}
	}
}

// TestTheOrderOfJoiningDoesNotMatter lets the same sessions come in many orders.
func TestTheOrderOfJoiningDoesNotMatter(t *testing.T) {
	draw := rand.New(rand.NewSource(135))
	ids := []int{1, 2, 3, 10, 1 << 32, cap40, cap40 + 1, most}
	var want []api.Session
	for _, id := range ids {
		want = append(want, fresher(id))
	}
	for range 300 {
		var l []api.Session
		for _, i := range draw.Perm(len(ids)) {
			m, e := Join(l, ids[i])
			if e != api.OK || !Right(m) {
				t.Fatalf("Join(%v, %d): %d", l, ids[i], e)
			}
			l = m
		}
		if !slices.Equal(l, want) {
			t.Fatalf("%v, not %v", l, want)
		}
	}
}

// told is what must be remembered of a session: each number that it kept since it came, with its reply, and the greatest of them.
type told struct {
	replies map[int]api.Reply
	last    int
}

// desk remembers each session by its Id, beside the list that the package gives.
type desk struct {
	l  []api.Session
	of map[int]told
}

// join lets a session come in both, and tells whether they agree.
func (d *desk) join(id int) bool {
	got, e := Join(d.l, id)
	_, there := d.of[id]
	want := api.OK
	if there {
		want = api.ErrTaken
	} else if len(d.of) == eight {
		want = api.ErrFull
	}
	if e == api.OK {
		d.l, d.of[id] = got, told{replies: map[int]api.Reply{}}
	}
	return e == want
}

// leave lets a session go in both.
func (d *desk) leave(id int) bool {
	got, e := Leave(d.l, id)
	_, there := d.of[id]
	if e == api.OK {
		d.l = got
		delete(d.of, id)
	}
	return (e == api.OK) == there && (there || e == api.ErrNone)
}

// keep keeps a number, which must be above all that its session kept.
func (d *desk) keep(id, seq int, r api.Reply) bool {
	got, e := Keep(d.l, id, seq, r)
	s, there := d.of[id]
	want := api.OK
	if !there {
		want = api.ErrGone
	} else if seq == s.last {
		want = api.ErrTaken
	} else if seq < s.last {
		want = api.ErrStale
	}
	if e == api.OK {
		if _, twice := s.replies[seq]; twice {
			return false
		}
		s.replies[seq], s.last = r, seq
		d.l, d.of[id] = got, s
	}
	return e == want
}

// agrees tells whether each session's latest number is told as it was kept, each older one as stale, the next one as new, and whether there are no others.
func (d *desk) agrees() bool {
	for id, s := range d.of {
		for seq := 1; seq <= s.last+1; seq++ {
			want, is, why := api.Reply{}, false, api.OK
			if seq == s.last {
				want, is = s.replies[seq], true
			} else if seq < s.last {
				why = api.ErrStale
			}
			if got, old, e := Look(d.l, id, seq); got != want || old != is || e != why {
				return false
			}
		}
	}
	return len(d.l) == len(d.of) && Right(d.l) && isRight(d.l)
}

// TestWhateverComesBetween draws what comes, goes, is kept and is refused, of more sessions than there is room for.
func TestWhateverComesBetween(t *testing.T) {
	draw := rand.New(rand.NewSource(136))
	for round := range 300 {
		d := desk{of: map[int]told{}}
		for step := range 200 {
			id, did, ok := 1+draw.Intn(11), "keep", false
			switch draw.Intn(12) {
			case 0, 1:
				did, ok = "join", d.join(id)
			case 2:
				did, ok = "leave", draw.Intn(2) > 0 || d.leave(id)
			default:
				ok = d.keep(id, max(1, d.of[id].last+draw.Intn(4)-1), drawnReply(draw))
			}
			if !ok || !d.agrees() {
				t.Fatalf("round %d, step %d: %s %d: %v, not %v", round, step, did, id, d.l, d.of)
			}
		}
	}
}
