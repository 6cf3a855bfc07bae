package session

import (
	"math/rand"
	"slices"
	"testing"

	"impost/api"
)

// R2, R4, R5

// changes are the calls that answer with a list, as such of a list, an id and a number.
func changes() map[string]func(l []api.Session, id, seq int) ([]api.Session, api.Errno) {
	return map[string]func(l []api.Session, id, seq int) ([]api.Session, api.Errno){
		"Join":  func(l []api.Session, id, _ int) ([]api.Session, api.Errno) { return Join(l, id) },
		"Leave": func(l []api.Session, id, _ int) ([]api.Session, api.Errno) { return Leave(l, id) },
		"Keep":  func(l []api.Session, id, seq int) ([]api.Session, api.Errno) { return Keep(l, id, seq, reply(seq)) },
	}
}

// tried are lists that all calls are tried on: empty ones, right ones, full ones, and ones that aren't right.
func tried() [][]api.Session {
	l := [][]api.Session{nil, {}, many(1), many(2), some(), many(7), many(8)}
	for _, w := range wrongLists() {
		l = append(l, w)
	}
	return l
}

// idsOf are those of l, and ids ahead of it, in it, behind it, and such as can't be.
func idsOf(l []api.Session) []int {
	ids := []int{far, -1, 0, 1, 5, 15, 85, most}
	for _, s := range l {
		ids = append(ids, s.Id)
	}
	return ids
}

// TestWhatIsHandedInStays: for answers and for refusals, with spare room and without.
func TestWhatIsHandedInStays(t *testing.T) {
	for _, plain := range tried() {
		for _, l := range [][]api.Session{slices.Clone(plain), roomy(plain)} {
			was := whole(l)
			for _, id := range idsOf(l) {
				for _, seq := range []int{far, 0, 1, 5, cap40, most} {
					for name, call := range changes() {
						got, _ := call(l, id, seq)
						spoil(got)
						if !slices.Equal(whole(l), was) {
							t.Fatalf("%s %d, %d made %v of %v", name, id, seq, whole(l), was)
						}
					}
					Look(l, id, seq)
				}
			}
			Right(l)
			if !slices.Equal(whole(l), was) {
				t.Fatalf("Right or Look made %v of %v", whole(l), was)
			}
		}
	}
}

// TestAnswersAreNew: none changes with what was handed in, nor with another answer, their spare room included.
func TestAnswersAreNew(t *testing.T) {
	for _, plain := range tried() {
		for _, id := range idsOf(plain) {
			for name, call := range changes() {
				l := roomy(plain)
				one, e := call(l, id, 9)
				keep := whole(one)
				two, f := call(l, id, 9)
				if e != f || !slices.Equal(one, two) {
					t.Errorf("%s %d: %v, %d, then %v, %d", name, id, one, e, two, f)
				}
				spoil(l)
				spoil(two)
				if !slices.Equal(whole(one), keep) {
					t.Errorf("%s %d: the answer became %v", name, id, whole(one))
				}
			}
		}
	}
}

// TestNothingToDoIsNewToo: what leaves another session, or comes behind all of them, has the others in memory of their own.
func TestNothingToDoIsNewToo(t *testing.T) {
	l := roomy(of(kept(10, 1), kept(20, 2)))
	joined, _ := Join(l, 30)
	left, _ := Leave(l, 20)
	told, _ := Keep(l, 20, 3, reply(3))
	for i, m := range [][]api.Session{joined, left, told} {
		if len(m) == 0 || &m[0] == &l[0] {
			t.Errorf("%d: %v stands in the list that was handed in", i, m)
		}
	}
}

// TestSpareRoomIsNotRead: what stands behind a list's length is none of it, whatever it is.
func TestSpareRoomIsNotRead(t *testing.T) {
	for _, plain := range tried() {
		l := roomy(plain)
		hidden := l[:cap(l)][len(l)]
		if Right(l) != Right(plain) {
			t.Errorf("Right of %v", plain)
		}
		for _, id := range append(idsOf(plain), hidden.Id) {
			for _, seq := range []int{1, 5, hidden.Last} {
				for name, call := range changes() {
					got, e := call(l, id, seq)
					want, why := call(plain, id, seq)
					if e != why || !slices.Equal(got, want) {
						t.Errorf("%s %d, %d of %v: %v, %d", name, id, seq, plain, got, e)
					}
				}
				got, old, e := Look(l, id, seq)
				want, is, why := Look(plain, id, seq)
				if got != want || old != is || e != why {
					t.Errorf("Look %d, %d of %v: %v, %v, %d", id, seq, plain, got, old, e)
				}
			}
		}
	}
}

func TestNilAndEmptyAreTheSame(t *testing.T) {
	lists := [][]api.Session{nil, {}, make([]api.Session, 0, 9), roomy(nil), many(3)[:0]}
	for i, l := range lists {
		if !Right(l) {
			t.Error("Right", i)
		}
		for id := -2; id < 20; id++ {
			want, why := []api.Session(nil), api.ErrArg
			if id > 0 {
				want, why = of(fresher(id)), api.OK
			}
			if got, e := Join(l, id); e != why || !slices.Equal(got, want) {
				t.Errorf("Join %d, list %d: %v, %d", id, i, got, e)
			}
			if got, e := Leave(l, id); got != nil || e != api.ErrNone {
				t.Errorf("Leave %d, list %d: %v, %d", id, i, got, e)
			}
			if got, old, e := Look(l, id, 1); got != (api.Reply{}) || old || e != api.ErrGone {
				t.Errorf("Look %d, list %d: %v, %v, %d", id, i, got, old, e)
			}
			if got, e := Keep(l, id, 1, reply(1)); got != nil || e != api.ErrGone {
				t.Errorf("Keep %d, list %d: %v, %d", id, i, got, e)
			}
		}
	}
}

// TestLongListsAreRefusedAtOnce: a list that is far too long is no reason to go through it, and none to panic.
func TestLongListsAreRefusedAtOnce(t *testing.T) {
	l := many(1 << 16)
	for range 20000 {
		if Right(l) {
			t.Fatal("Right")
		}
		if m, e := Join(l, 5); m != nil || e != api.ErrArg {
			t.Fatal("Join", e)
		}
		if _, old, e := Look(l, 10, 1); old || e != api.ErrArg {
			t.Fatal("Look", e)
		}
	}
}

// TestAnyNumbersEnd hands in what is drawn without a thought to what it means.
func TestAnyNumbersEnd(t *testing.T) {
	draw := rand.New(rand.NewSource(134))
	for range 20000 {
		l := make([]api.Session, draw.Intn(12))
		for i := range l {
			l[i] = api.Session{Id: drawnNumber(draw), Last: drawnNumber(draw), Reply: drawnReply(draw)}
		}
		id, seq := drawnNumber(draw), drawnNumber(draw)
		for name, call := range changes() {
			got, e := call(l, id, seq)
			if e != api.OK && got != nil || e == api.OK && !(isRight(l) && isRight(got)) {
				t.Fatalf("%s %d, %d of %v: %v, %d", name, id, seq, l, got, e)
			}
		}
		if r, old, e := Look(l, id, seq); (e != api.OK || !old) && r != (api.Reply{}) || e != api.OK && old {
			t.Fatalf("Look %d, %d of %v: %v, %v, %d", id, seq, l, r, old, e)
		}
	}
}
