package session

import (
	"math/rand"
	"slices"
	"testing"

	"impost/api"
)

// P13.3, P13.4

// asked is a number that is asked for of a session with a Last, and what must be said to it: its reply, or why not, or that it is new.
type asked struct {
	last, seq int
	old       bool
	why       api.Errno
}

// numbersAsked are the edges that the chapter names, of a Last and of a number beside it.
func numbersAsked() []asked {
	return []asked{
		{0, 1, false, api.OK}, {0, 2, false, api.OK}, {0, cap40, false, api.OK},
		{0, 0, false, api.ErrArg}, {0, -1, false, api.ErrArg}, {0, cap40 + 1, false, api.ErrArg}, {0, far, false, api.ErrArg}, {0, most, false, api.ErrArg},
		{1, 1, true, api.OK}, {1, 2, false, api.OK}, {1, cap40, false, api.OK}, {1, 0, false, api.ErrArg}, {1, -1, false, api.ErrArg}, {1, 1<<32 + 1, false, api.OK},
		{2, 1, false, api.ErrStale}, {2, 2, true, api.OK}, {2, 3, false, api.OK}, {2, 0, false, api.ErrArg},
		{5, 1, false, api.ErrStale}, {5, 4, false, api.ErrStale}, {5, 5, true, api.OK}, {5, 6, false, api.OK}, {5, 0, false, api.ErrArg}, {5, far, false, api.ErrArg}, {5, cap40 + 1, false, api.ErrArg}, {5, most, false, api.ErrArg}, {5, -5, false, api.ErrArg},
		{1 << 32, 1, false, api.ErrStale}, {1 << 32, 1<<32 - 1, false, api.ErrStale}, {1 << 32, 1 << 32, true, api.OK}, {1 << 32, 1<<32 + 1, false, api.OK},
		{cap40 - 1, cap40 - 2, false, api.ErrStale}, {cap40 - 1, cap40 - 1, true, api.OK}, {cap40 - 1, cap40, false, api.OK}, {cap40 - 1, cap40 + 1, false, api.ErrArg},
		{cap40, 1, false, api.ErrStale}, {cap40, cap40 - 1, false, api.ErrStale}, {cap40, cap40, true, api.OK}, {cap40, cap40 + 1, false, api.ErrArg}, {cap40, 0, false, api.ErrArg}, {cap40, -1, false, api.ErrArg}, {cap40, far, false, api.ErrArg}, {cap40, most, false, api.ErrArg},
	}
}

// among is s ahead of others, between them, behind them, and alone.
func among(s api.Session) [][]api.Session {
	s.Id = 40
	return [][]api.Session{of(s), of(s, kept(41, 3), kept(50, 5)), of(fresher(39), s, kept(41, 5)), of(kept(3, 5), kept(39, cap40), s), {kept(1, 5), kept(2, 1), kept(3, 9), s, kept(41, 2), kept(42, 4), kept(43, 6), kept(most, cap40)}}
}

func TestLookByNumbers(t *testing.T) {
	for i, c := range numbersAsked() {
		s := fresher(40)
		if c.last > 0 {
			s = kept(40, c.last)
		}
		want := api.Reply{}
		if c.old {
			want = s.Reply
		}
		for j, l := range among(s) {
			if got, old, e := Look(l, 40, c.seq); got != want || old != c.old || e != c.why {
				t.Errorf("%d, list %d: %v, %v, %d, not %v, %v, %d", i, j, got, old, e, want, c.old, c.why)
			}
		}
	}
}

// TestLookTellsAnyReply: zero ones, refusals, and numbers that no machine would tell.
func TestLookTellsAnyReply(t *testing.T) {
	for _, r := range []api.Reply{{}, {Why: api.ErrFull}, {Why: -1}, {Number: 1, Gross: 119}, {Number: 1, Gross: -119}, {Number: far, Gross: most}, {Why: far, Number: most, Gross: far}} {
		for j, l := range among(api.Session{Last: 5, Reply: r}) {
			if got, old, e := Look(l, 40, 5); got != r || !old || e != api.OK {
				t.Errorf("%v, list %d: %v, %v, %d", r, j, got, old, e)
			}
		}
	}
}

func TestLookAndKeepOfNone(t *testing.T) {
	for _, id := range absent() {
		for i, l := range [][]api.Session{nil, {}, some(), many(1), many(7), many(8)} {
			for _, seq := range []int{far, -1, 0, 1, 2, 5, cap40, cap40 + 1, most} {
				if got, old, e := Look(l, id, seq); got != (api.Reply{}) || old || e != api.ErrGone {
					t.Errorf("Look %d, %d in list %d: %v, %v, %d", id, seq, i, got, old, e)
				}
				if got, e := Keep(l, id, seq, reply(2)); got != nil || e != api.ErrGone {
					t.Errorf("Keep %d, %d in list %d: %v, %d", id, seq, i, got, e)
				}
			}
		}
	}
}

// TestFirstFaults has, for each refusal of Look and Keep, what would be refused behind it as well.
func TestFirstFaults(t *testing.T) {
	right := of(kept(3, 5), kept(4, cap40))
	wrong := of(kept(4, cap40), kept(3, 5))
	for i, c := range []struct {
		l          []api.Session
		id, seq    int
		look, keep api.Errno
	}{
		{wrong, 9, 0, api.ErrArg, api.ErrArg}, {wrong, 9, 1, api.ErrArg, api.ErrArg}, {wrong, 3, 0, api.ErrArg, api.ErrArg}, {wrong, 3, 4, api.ErrArg, api.ErrArg}, {wrong, 3, 5, api.ErrArg, api.ErrArg}, {wrong, 3, 6, api.ErrArg, api.ErrArg}, {many(9), 90, 9, api.ErrArg, api.ErrArg}, {many(9), 5, 9, api.ErrArg, api.ErrArg},
		{right, 9, 0, api.ErrGone, api.ErrGone}, {right, 0, 0, api.ErrGone, api.ErrGone}, {right, -1, far, api.ErrGone, api.ErrGone}, {right, far, cap40 + 1, api.ErrGone, api.ErrGone}, {right, 5, 5, api.ErrGone, api.ErrGone},
		{right, 3, 0, api.ErrArg, api.ErrArg}, {right, 3, far, api.ErrArg, api.ErrArg}, {right, 4, 0, api.ErrArg, api.ErrArg}, {right, 4, cap40 + 1, api.ErrArg, api.ErrArg}, {of(fresher(3)), 3, 0, api.ErrArg, api.ErrArg},
		{right, 3, 4, api.ErrStale, api.ErrStale}, {right, 4, 1, api.ErrStale, api.ErrStale},
		{right, 3, 5, api.OK, api.ErrTaken}, {right, 4, cap40, api.OK, api.ErrTaken},
		{right, 3, 6, api.OK, api.OK}, {right, 3, cap40, api.OK, api.OK},
	} {
		if _, _, e := Look(c.l, c.id, c.seq); e != c.look {
			t.Errorf("Look %d: %d, not %d", i, e, c.look)
		}
		if got, e := Keep(c.l, c.id, c.seq, reply(1)); e != c.keep || e != api.OK && got != nil {
			t.Errorf("Keep %d: %v, %d, not %d", i, got, e, c.keep)
		}
	}
}

func TestKeepByNumbers(t *testing.T) {
	r := api.Reply{Why: api.ErrShut, Number: 77, Gross: -3}
	for i, c := range numbersAsked() {
		s := fresher(40)
		if c.last > 0 {
			s = kept(40, c.last)
		}
		why := c.why
		if c.old {
			why = api.ErrTaken
		}
		for j, l := range among(s) {
			got, e := Keep(l, 40, c.seq, r)
			if e != why {
				t.Errorf("%d, list %d: %v, %d, not %d", i, j, got, e, why)
			}
			if why != api.OK {
				if got != nil {
					t.Errorf("%d, list %d: %v beside an error", i, j, got)
				}
				continue
			}
			want := slices.Clone(l)
			want[at(l, 40)] = api.Session{Id: 40, Last: c.seq, Reply: r}
			if !slices.Equal(got, want) || !Right(got) {
				t.Errorf("%d, list %d: %v, not %v", i, j, got, want)
			}
		}
	}
}

// TestKeepOfEach keeps a number of each session of lists of each length, with replies of any sort.
func TestKeepOfEach(t *testing.T) {
	for n := 1; n <= eight; n++ {
		for i, s := range many(n) {
			for _, r := range []api.Reply{{}, {Why: api.ErrNone}, {Number: 1}, {Gross: -1}, {Why: far, Number: most, Gross: far}, s.Reply} {
				for _, seq := range []int{s.Last + 1, s.Last + 2, cap40} {
					want := many(n)
					want[i] = api.Session{Id: s.Id, Last: seq, Reply: r}
					got, e := Keep(many(n), s.Id, seq, r)
					if e != api.OK || !slices.Equal(got, want) || !Right(got) {
						t.Errorf("%d of %d: %v, %d, not %v", i, n, got, e, want)
					}
				}
			}
		}
	}
}

func TestLookAndKeepOfDrawn(t *testing.T) {
	draw := rand.New(rand.NewSource(133))
	looks, keeps, olds := map[api.Errno]int{}, map[api.Errno]int{}, 0
	for range 40000 {
		l := drawnList(draw)
		if draw.Intn(4) == 0 {
			l = spoilt(draw, l)
		}
		id := drawnId(draw, l)
		seq, r := drawnSeq(draw, l, id), drawnReply(draw)
		got, old, e := Look(l, id, seq)
		if want, is, why := wantLook(l, id, seq); got != want || old != is || e != why {
			t.Fatalf("Look(%v, %d, %d) = %v, %v, %d, not %v, %v, %d", l, id, seq, got, old, e, want, is, why)
		}
		looks[e]++
		if old {
			olds++
		}
		next, e := Keep(l, id, seq, r)
		if want, why := wantKeep(l, id, seq, r); e != why || !slices.Equal(next, want) || e != api.OK && next != nil {
			t.Fatalf("Keep(%v, %d, %d, %v) = %v, %d, not %v, %d", l, id, seq, r, next, e, want, why)
		}
		keeps[e]++
	}
	if min(olds, looks[api.OK]-olds, looks[api.ErrArg], looks[api.ErrGone], looks[api.ErrStale], keeps[api.OK], keeps[api.ErrTaken]) < 500 {
		t.Error("too few of one sort were drawn:", looks, olds, keeps)
	}
}
