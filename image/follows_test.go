package image_test

import (
	"bytes"
	"math/rand"
	"testing"

	"impost/api"
	"impost/billing"
	"impost/image"
)

// P15.3

func pick[T any](draw *rand.Rand, l ...T) T { return l[draw.Intn(len(l))] }

// drawnName is one of few, so that commands meet; rarely it is none.
func drawnName(draw *rand.Rand) string {
	if draw.Intn(40) == 0 {
		return pick(draw, "", "7", "a\xff")
	}
	return pick(draw, "a", "a", "b", "c", "\u00fc")
}

// drawnDay is one of few; rarely it isn't right.
func drawnDay(draw *rand.Rand) api.Date {
	if draw.Intn(40) == 0 {
		return pick(draw, api.Date{}, day(2026, 2, 29))
	}
	return pick(draw, day(1999, 12, 31), day(2026, 11, 14), today(), today(), today(), day(2026, 11, 16))
}

// drawnPrice is small; rarely it is near to an edge.
func drawnPrice(draw *rand.Rand) int {
	if draw.Intn(8) == 0 {
		return pick(draw, far, far/2, -most, most, most/2, most/10, far/20, 1<<62)
	}
	return draw.Intn(2001) - 1000
}

// drawnCmd is of any kind.
func drawnCmd(draw *rand.Rand, s api.State) api.Cmd {
	c := api.Cmd{Kind: pick(draw, 1, 3, 3, 4, 4, 4, 4, 4, 4, 4, 5, 5, 5, 6, 8), Series: drawnName(draw), Limit: pick(draw, 0, 1, 2, 9, 99, 99, cap40), Day: drawnDay(draw), Session: draw.Intn(6)}
	if draw.Intn(20) == 0 {
		c.Kind = pick(draw, api.CShut, api.CLeave, 0)
	}
	c.Row = api.Rate{Category: drawnName(draw), From: pick(draw, day(2000, 1, 1), today(), drawnDay(draw)), Bp: pick(draw, 0, 0, 700, 1900, 10000, 100000)}
	for range pick(draw, 1, 1, 1, 2, 2, 3, 5) {
		c.Lines = append(c.Lines, api.Line{Category: drawnName(draw), Count: pick(draw, 1, 1, 1, 2, 3), Price: drawnPrice(draw)})
	}
	c.Of = ref(drawnName(draw), draw.Intn(5))
	if len(s.Posted) > 0 && draw.Intn(4) > 0 {
		c.Of = s.Posted[draw.Intn(len(s.Posted))].Ref
	}
	return c
}

// drawnCall is mostly the next one of a session of s; else one made again, a stale one, one of a session that isn't there.
func drawnCall(draw *rand.Rand, s api.State) api.Call {
	c := api.Call{Cmd: drawnCmd(draw, s)}
	if len(s.Sessions) == 0 || draw.Intn(30) == 0 {
		c.Session, c.Seq, c.Cmd.Kind = draw.Intn(9), draw.Intn(9), pick(draw, c.Cmd.Kind, api.CJoin)
		return c
	}
	x := s.Sessions[draw.Intn(len(s.Sessions))]
	c.Session, c.Seq = x.Id, x.Last+pick(draw, 1, 1, 1, 1, 1, 1, 1, 2, 5, 0, -1)
	return c
}

// drawnState is what drawn calls come to; it has rates, series and a session from the beginning.
func drawnState(draw *rand.Rand) api.State {
	from := day(2000, 1, 1)
	cmds := []api.Cmd{{Kind: api.CJoin}, {Kind: api.CLevy, Row: api.Rate{Category: "a", From: from, Bp: 1900}}, {Kind: api.CLevy, Row: api.Rate{Category: "b", From: from}}, {Kind: api.COpen, Series: "a", Limit: 99}, {Kind: api.COpen, Series: "b", Limit: 3}}
	s := billing.New()
	for i, c := range cmds {
		s, _ = billing.Apply(s, api.Call{Session: 1, Seq: i, Cmd: c})
	}
	for range draw.Intn(60) {
		s, _ = billing.Apply(s, drawnCall(draw, s))
	}
	return s
}

// TestThereAndBack: Get of Put is the state, and Put of that the bytes, behind each call of drawn scripts.
func TestThereAndBack(t *testing.T) {
	draw := rand.New(rand.NewSource(153))
	credits, shut, seen := 0, 0, map[int]int{}
	for range 300 {
		s := drawnState(draw)
		for range 10 {
			b := goes(t, s)
			got, _ := image.Get(b)
			if again := image.Put(got); !bytes.Equal(again, b) {
				t.Fatalf("% x, then % x", b, again)
			}
			s, _ = billing.Apply(s, drawnCall(draw, s))
		}
		seen[len(s.Posted)]++
		for _, p := range s.Posted {
			if p.Back {
				credits++
			}
		}
		for _, x := range s.Series {
			if x.Shut {
				shut++
			}
		}
	}
	if credits < 100 || shut < 20 || len(seen) < 15 {
		t.Error("seldom:", credits, shut, seen)
	}
}

// TestGoesOn: behind the same calls the state that was written and the one that was read answer the same, and are the same.
func TestGoesOn(t *testing.T) {
	draw := rand.New(rand.NewSource(154))
	whys := map[api.Errno]int{}
	for range 200 {
		s := drawnState(draw)
		read, e := image.Get(image.Put(s))
		if e != api.OK {
			t.Fatal(e)
		}
		for range 30 {
			c := drawnCall(draw, s)
			next, r := billing.Apply(s, c)
			after, q := billing.Apply(read, c)
			if r != q || !same(next, after) {
				t.Fatalf("%v: %v, %v, then %v, %v", c, next, r, after, q)
			}
			whys[r.Why]++
			s, read = next, after
		}
	}
	for _, e := range []api.Errno{api.OK, api.ErrOver, api.ErrRate, api.ErrNone, api.ErrTaken, api.ErrShut, api.ErrFull, api.ErrDate, api.ErrStale} {
		if whys[e] < 10 {
			t.Error("seldom:", e, whys[e])
		}
	}
}

// TestOneImageAState: two states that differ have images that do, and no image is the beginning of another.
func TestOneImageAState(t *testing.T) {
	draw := rand.New(rand.NewSource(155))
	var states []api.State
	for range 60 {
		states = append(states, drawnState(draw))
	}
	for i, a := range states {
		for _, b := range states[:i] {
			x, y := image.Put(a), image.Put(b)
			if same(a, b) != bytes.Equal(x, y) {
				t.Fatalf("%v and %v are written as % x and % x", a, b, x, y)
			}
			if len(x) != len(y) && (bytes.HasPrefix(x, y) || bytes.HasPrefix(y, x)) {
				t.Fatalf("% x and % x", x, y)
			}
		}
	}
}

// TestPlayedThroughImages: a machine that is written and read behind each call comes to what it comes to without that.
func TestPlayedThroughImages(t *testing.T) {
	draw := rand.New(rand.NewSource(156))
	for range 100 {
		from := drawnState(draw)
		s, last, calls := from, image.Put(from), []api.Call(nil)
		for range 20 {
			c := drawnCall(draw, s)
			read, e := image.Get(last)
			if e != api.OK {
				t.Fatal(e)
			}
			s, _ = billing.Apply(read, c)
			last, calls = image.Put(s), append(calls, c)
		}
		if want, _ := billing.Play(from, calls...); !same(s, want) || !bytes.Equal(last, written(want)) {
			t.Fatalf("%v, not %v", s, want)
		}
	}
}
