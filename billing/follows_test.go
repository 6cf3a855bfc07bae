package billing

import (
	"math/rand"
	"slices"
	"testing"

	"impost/api"
	"impost/post"
)

// P14.5

func pick[T any](draw *rand.Rand, l ...T) T { return l[draw.Intn(len(l))] }

// drawnName is one of few, so that commands meet; rarely it is none.
func drawnName(draw *rand.Rand) string {
	if draw.Intn(40) == 0 {
		return pick(draw, "", "7", "a b", "a\xff", "aaaaaaaaaaaaaaaaaaaaaaaaa")
	}
	return pick(draw, "a", "a", "b", "c", "\u00fc")
}

// drawnDay is one of few; rarely it isn't right.
func drawnDay(draw *rand.Rand) api.Date {
	if draw.Intn(40) == 0 {
		return pick(draw, api.Date{}, day(2026, 2, 29), day(most, far, 1))
	}
	return pick(draw, day(1999, 12, 31), day(2026, 11, 14), today(), today(), today(), day(2026, 11, 16))
}

// drawnPrice is small; rarely it is near to an edge.
func drawnPrice(draw *rand.Rand) int {
	if draw.Intn(8) == 0 {
		return pick(draw, far, far/2, -most, most, most/2, most/10, far/20, 1<<62)
	}
	return draw.Intn(2001) - 1000
}

// drawnCmd is of any Kind; with every field drawn, whether it matters or not.
func drawnCmd(draw *rand.Rand, s api.State) api.Cmd {
	kinds := []int{api.COpen, api.CShut, api.CLevy, api.CLevy, api.CPost, api.CPost, api.CPost, api.CPost, api.CPost, api.CPost, api.CCredit, api.CCredit, api.CCredit, api.CJoin, api.CAsk, api.CLeave}
	c := api.Cmd{Kind: pick(draw, kinds...), Series: drawnName(draw), Limit: pick(draw, 0, 1, 2, 9, 9, 99, 99, 99, cap40, cap40+1), Day: drawnDay(draw), Session: draw.Intn(6)}
	if draw.Intn(60) == 0 {
		c.Kind = pick(draw, far, -1, 0, 9, most)
	}
	if c.Kind == api.CShut && draw.Intn(4) > 0 {
		c.Kind = api.CPost
	}
	c.Row = api.Rate{Category: drawnName(draw), From: pick(draw, day(2000, 1, 1), today(), drawnDay(draw)), Bp: pick(draw, 0, 0, 0, 700, 1900, 10000, 100000, -1)}
	for range pick(draw, 1, 1, 1, 1, 2, 2, 3, 5, 0, 13) {
		c.Lines = append(c.Lines, line(pick(draw, 1, 1, 1, 2, 3, 0), drawnPrice(draw), drawnName(draw)))
	}
	c.Of = ref(drawnName(draw), draw.Intn(5))
	if len(s.Posted) > 0 && draw.Intn(4) > 0 {
		c.Of = s.Posted[draw.Intn(len(s.Posted))].Ref
	}
	return c
}

// drawnCall is mostly the next one of a session of s; else one made again, a stale one, one of a session that isn't there.
func drawnCall(draw *rand.Rand, s api.State) api.Call {
	c := api.Call{Cmd: drawnCmd(draw, s)}
	if len(s.Sessions) == 0 || draw.Intn(30) == 0 {
		c.Session, c.Seq = pick(draw, far, 0, 1, 3, 9, most), pick(draw, far, 0, 1, cap40, most)
		if draw.Intn(2) == 0 {
			c.Cmd.Kind = api.CJoin
		}
		return c
	}
	x := s.Sessions[draw.Intn(len(s.Sessions))]
	c.Session, c.Seq = x.Id, x.Last+pick(draw, 1, 1, 1, 1, 1, 1, 1, 2, 5, 0, 0, -1)
	return c
}

// drawnState is what drawn calls come to; it has rates, series and a session from the beginning.
func drawnState(draw *rand.Rand) api.State {
	s, _ := Play(New(), by(0, 0, cJoin()), by(1, 1, cLevy("a", day(2000, 1, 1), 1900)), by(1, 2, cLevy("b", day(2000, 1, 1), 0)), by(1, 3, cOpen("a", 99)), by(1, 4, cOpen("b", 3)))
	for range draw.Intn(40) {
		s, _ = Apply(s, drawnCall(draw, s))
	}
	return s
}

// TestDrawnCalls holds each call of drawn scripts against the model, and what follows.
func TestDrawnCalls(t *testing.T) {
	draw := rand.New(rand.NewSource(145))
	whys := map[api.Errno]int{}
	for range 250 {
		s := drawnState(draw)
		for range 30 {
			c := drawnCall(draw, s)
			next, r := checked(t, s, c)
			whys[r.Why]++
			follows(t, s, next, c, r)
			s = next
		}
	}
	for _, e := range []api.Errno{api.OK, api.ErrArg, api.ErrLong, api.ErrOver, api.ErrName, api.ErrDate, api.ErrRate, api.ErrNone, api.ErrTaken, api.ErrShut, api.ErrFull, api.ErrGone, api.ErrStale, api.ErrKind} {
		if whys[e] < 10 {
			t.Error("seldom:", e, whys[e])
		}
	}
}

// follows asks what the chapter says of the state behind a call.
func follows(t *testing.T, was, s api.State, c api.Call, r api.Reply) {
	t.Helper()
	if !Right(s) || !post.Balanced(s.Book) {
		t.Fatalf("behind %v: %v", c, s)
	}
	next := map[string]int{}
	for _, p := range s.Posted {
		next[p.Series]++
		if p.Number != next[p.Series] {
			t.Fatalf("a gap at %v: %v", p.Ref, s.Posted)
		}
	}
	for i, p := range was.Posted {
		q := s.Posted[i]
		q.Back = p.Back
		if !alikePosted(p, q) {
			t.Fatalf("%v became %v", p, q)
		}
	}
	if r.Why != api.OK {
		bare, old := twin(s), twin(was)
		bare.Sessions, old.Sessions = nil, nil
		if !alike(bare, old) || !slices.Equal(idsOf(s), idsOf(was)) {
			t.Fatalf("%v, refused, made %v of %v", c, s, was)
		}
	}
	if c.Cmd.Kind == api.CJoin {
		return
	}
	again, reply := Apply(s, c)
	if left := !slices.Contains(idsOf(s), c.Session) && r.Why != api.ErrKind; left {
		if reply != why(api.ErrGone) || !alike(again, s) {
			t.Fatalf("%v behind leaving: %v", c, reply)
		}
	} else if reply != r || !alike(again, s) {
		t.Fatalf("%v again: %v, not %v", c, reply, r)
	}
}

// TestNoSeqIsDoneTwice makes each call of a script several times over, late and in any order: what is posted is what the first ones came to.
func TestNoSeqIsDoneTwice(t *testing.T) {
	draw := rand.New(rand.NewSource(146))
	for range 60 {
		s := drawnState(draw)
		var made []api.Call
		done := map[[2]int]int{}
		for range 40 {
			c := drawnCall(draw, s)
			if len(made) > 0 && draw.Intn(3) > 0 {
				c = made[draw.Intn(len(made))]
			}
			if c.Cmd.Kind == api.CJoin {
				continue
			}
			made = append(made, c)
			next, r := checked(t, s, c)
			if len(next.Posted) > len(s.Posted) {
				done[[2]int{c.Session, c.Seq}]++
				if p := next.Posted[len(s.Posted)]; r != told(p.Number, p.Total.Gross) || len(next.Posted) != len(s.Posted)+1 {
					t.Fatal(c, r, p)
				}
			}
			s = next
		}
		for at, n := range done {
			if n != 1 {
				t.Fatal(at, "posted", n, "times")
			}
		}
	}
}

// TestPlaysInParts: calls that are played in parts come to what they come to at once.
func TestPlaysInParts(t *testing.T) {
	draw := rand.New(rand.NewSource(147))
	for range 200 {
		from := drawnState(draw)
		s, calls, replies := from, []api.Call(nil), []api.Reply(nil)
		for range 25 {
			c := drawnCall(draw, s)
			next, r := Apply(s, c)
			s, calls, replies = next, append(calls, c), append(replies, r)
		}
		at := draw.Intn(len(calls) + 1)
		whole, all := Play(from, calls...)
		half, ahead := Play(from, calls[:at]...)
		rest, behind := Play(half, calls[at:]...)
		if !alike(whole, s) || !alike(rest, s) || !slices.Equal(all, replies) || !slices.Equal(append(ahead, behind...), replies) {
			t.Fatal(calls, whole, rest, s)
		}
	}
}

// TestManySeriesAtOnce: the numbers of each series rise by one, whatever is posted, refused, opened and shut between.
func TestManySeriesAtOnce(t *testing.T) {
	c := ready(t)
	names := []string{"a", "b", "c", "d"}
	for i, name := range names {
		c.is(cOpen(name, 9+i), api.Reply{})
	}
	next := map[string]int{}
	for i := range 36 {
		name := names[i*i%3]
		next[name]++
		c.is(cPost(name, today(), line(0, 1, "std")), why(api.ErrArg))
		want := told(next[name], 119)
		if next[name] > 9+slices.Index(names, name) {
			next[name]--
			want = why(api.ErrFull)
		}
		c.is(cPost(name, today(), line(1, 100, "std")), want)
		c.is(cCredit("d", today(), "z", 1), why(api.ErrNone))
		c.is(cPost("e", today(), line(1, 1, "std")), why(api.ErrNone))
	}
	c.is(cAsk("d"), told(0, 119*len(c.s.Posted)))
}
