package raft_test

import (
	"math/rand"
	"runtime"
	"slices"
	"testing"
	"unsafe"

	"impost/api"
	"impost/raft"
)

// R1, R2, R4, R5

func spoilt() api.Entry { return api.Entry{Term: -7, Members: 99, Data: "spoilt"} }

// roomy is a copy of l with spare room that x fills.
func roomy[T any](l []T, x T) []T {
	return append(append(make([]T, 0, len(l)+9), l...), slices.Repeat([]T{x}, 9)...)[:len(l)]
}

// whole is l with its spare room.
func whole[T any](l []T) []T { return l[:cap(l)] }

// fill writes over l and its spare room.
func fill[T any](l []T, x T) {
	for k := range whole(l) {
		whole(l)[k] = x
	}
}

// span is where something's memory begins and ends.
type span struct{ from, to uintptr }

func spanOf[T any](l []T) span {
	var x T
	from := uintptr(unsafe.Pointer(unsafe.SliceData(l)))
	return span{from, from + uintptr(cap(l))*unsafe.Sizeof(x)}
}

// apart tells whether no two of them share memory.
func apart(l ...span) bool {
	l = slices.DeleteFunc(l, func(s span) bool { return s.from == s.to })
	slices.SortFunc(l, func(a, b span) int {
		if a.from < b.from {
			return -1
		}
		return 1
	})
	for k := 1; k < len(l); k++ {
		if l[k].from < l[k-1].to {
			return false
		}
	}
	return true
}

// goesOn does several things to a core, so that its log grows, is cut, and stands on a snapshot.
func goesOn(c *raft.Core) {
	h := c.Hard()
	n := h.Base + len(h.Log)
	c.Take(appends(1, 0, h.Term+1, h.Base, h.BaseTerm, n+9, append(slices.Clone(h.Log[:min(len(h.Log), 2)]), en(h.Term+1, "new"), en(h.Term+1, "newer"))...))
	c.Take(appends(1, 0, h.Term+1, n, h.Term+1, n, en(h.Term+1, "and")))
	c.Compact(h.Base+1, "s")
	for range 40 {
		c.Tick(0)
	}
	c.Take(vote(1, 0, c.Hard().Term, true))
	c.Propose("p", "q")
	c.Change(15)
}

// TestTheHardThatNewIsHandedStays, with its Log's spare room, and isn't kept.
func TestTheHardThatNewIsHandedStays(t *testing.T) {
	for _, plain := range rightHards() {
		h := plain
		h.Log = roomy(plain.Log, spoilt())
		was := slices.Clone(whole(h.Log))
		c, d := bare(t, 0, h), bare(t, 0, h)
		if !sameHard(c.Hard(), plain) {
			t.Fatal(brief(plain))
		}
		goesOn(c)
		if !slices.Equal(whole(h.Log), was) || !sameHard(h, plain) {
			t.Fatalf("%s became %s", brief(plain), brief(h))
		}
		if !sameHard(d.Hard(), plain) {
			t.Fatalf("a core of the same Hard has %s, not %s", brief(d.Hard()), brief(plain))
		}
		fill(h.Log, en(1, "other"))
		if !sameHard(d.Hard(), plain) {
			t.Fatalf("the core's became %s with what it was made of", brief(d.Hard()))
		}
	}
}

// TestALetterThatIsTakenStays, with its Entries' spare room, and isn't kept.
func TestALetterThatIsTakenStays(t *testing.T) {
	for _, h := range []api.Hard{logged(3), logged(3, abc()...), five()} {
		for n := range longBatch + 1 {
			for _, commit := range []int{0, topIndex} {
				last := h.Base + len(h.Log)
				at := h.BaseTerm
				if len(h.Log) > 0 {
					at = h.Log[len(h.Log)-1].Term
				}
				m := appends(1, 0, 9, last, at, commit, roomy(numbered(n, 8), spoilt())...)
				m.Entries = roomy(numbered(n, 8), spoilt())
				was, all := m, slices.Clone(whole(m.Entries))
				c := bare(t, 0, h)
				c.Take(m)
				want := slices.Concat(h.Log, numbered(n, 8))
				fill(m.Entries, spoilt())
				if g := c.Hard(); !slices.Equal(g.Log, want) {
					t.Fatalf("%s became %s with a letter", brief(want), brief(g.Log))
				}
				copy(whole(m.Entries), all)
				goesOn(c)
				c.Take(appends(2, 0, 30, h.Base, h.BaseTerm, 0, en(30, "z")))
				if !sameLetter(m, was) || !slices.Equal(whole(m.Entries), all) {
					t.Fatalf("%s became %s", brief(was), brief(m))
				}
			}
		}
	}
	// nor is one that is refused, or passed over, changed
	for _, x := range roles(t) {
		for _, term := range []int{1, 4, 5, 6} {
			for _, m := range each(term) {
				m.Entries = roomy(m.Entries, spoilt())
				if m.Kind == isAppend {
					m.Entries = roomy(run(3, term), spoilt())
				}
				was, all := m, slices.Clone(whole(m.Entries))
				x.c.Take(m)
				if !sameLetter(m, was) || !slices.Equal(whole(m.Entries), all) {
					t.Fatalf("%s became %s", brief(was), brief(m))
				}
			}
		}
	}
}

// TestWhatIsProposedStays, with its spare room, and isn't kept.
func TestWhatIsProposedStays(t *testing.T) {
	for n := range 9 {
		for _, long := range []bool{false, true} {
			c := led(t, fresh())
			plain := make([]string, n)
			for k := range plain {
				plain[k] = text(k)
			}
			if long && n > 0 {
				plain[n-1] = text(longEntry + 1)
			}
			data := roomy(plain, "spare")
			all := slices.Clone(whole(data))
			_, ok := c.Propose(data...)
			if ok != (n > 0 && !long) || !slices.Equal(whole(data), all) || len(data) != n {
				t.Fatalf("%v of %d, which became %s", ok, n, brief(data))
			}
			h := c.Hard()
			fill(data, "spoilt")
			if !sameHard(c.Hard(), h) {
				t.Fatalf("%s became %s", brief(h), brief(c.Hard()))
			}
		}
	}
}

// TestHardIsNewMemory: what is done to one changes neither the core nor another one.
func TestHardIsNewMemory(t *testing.T) {
	for _, plain := range rightHards() {
		c := bare(t, 0, plain)
		a, b := c.Hard(), c.Hard()
		if !apart(spanOf(a.Log), spanOf(b.Log), spanOf(plain.Log)) {
			t.Fatalf("two of %s share memory", brief(plain))
		}
		room := slices.Clone(whole(b.Log))
		_ = append(a.Log, spoilt(), spoilt())
		fill(a.Log, spoilt())
		if !slices.Equal(whole(b.Log), room) || !sameHard(b, plain) || !sameHard(c.Hard(), plain) {
			t.Fatalf("%s became %s, %s", brief(plain), brief(b), brief(c.Hard()))
		}
		// and what the core does later doesn't touch what it told
		goesOn(c)
		if !slices.Equal(whole(b.Log), room) {
			t.Fatalf("%s became %s", brief(plain), brief(b))
		}
	}
}

// TestOutIsNewMemory: no two letters share any, with one another or with the core.
func TestOutIsNewMemory(t *testing.T) {
	c, d := led(t, logged(1, abc()[:1]...)), led(t, logged(1, abc()[:1]...))
	var before []span
	var kept []any // so that none of it is given to another
	for round := range 12 {
		for _, x := range []*raft.Core{c, d} {
			x.Propose("x", "y", "z")
			x.Take(ack(1, 0, 2, true, 1+2*round))
			x.Take(ack(2, 0, 2, false, 0))
			x.Tick(0)
			if round == 6 {
				x.Compact(9, snapshot(1500))
			}
		}
		h := c.Hard()
		got, want := c.Out(), d.Out()
		if len(got) < 3 || !slices.EqualFunc(got, want, sameLetter) {
			t.Fatalf("%s, not %s", brief(got), brief(want))
		}
		kept = append(kept, slices.Clone(got), got, slices.Clone(want), want, h.Log)
		before = append(before, spanOf(got), spanOf(want), spanOf(h.Log))
		for k := range got {
			before = append(before, spanOf(got[k].Entries), spanOf(want[k].Entries))
		}
		if !apart(slices.Clone(before)...) {
			t.Fatal("answers share memory")
		}
		for k := range got {
			_ = append(got[k].Entries, spoilt())
			fill(got[k].Entries, spoilt())
		}
		fill(got, api.Letter{Kind: -1})
		_ = append(got, api.Letter{})
		if !sameHard(c.Hard(), h) || !sameHard(c.Hard(), d.Hard()) {
			t.Fatalf("%s became %s", brief(h), brief(c.Hard()))
		}
	}
	runtime.KeepAlive(kept)
}

// TestOutOfAnAnswerThatIsGrown: what is put behind an answer isn't sent.
func TestOutOfAnAnswerThatIsGrown(t *testing.T) {
	c := led(t, fresh())
	for range 30 {
		c.Propose("x")
		l := c.Out()
		for range cap(l) + 1 {
			l = append(l, api.Letter{Kind: -1})
		}
		c.Tick(0)
		c.Tick(0)
		c.Tick(0)
		next := c.Out()
		for _, m := range next {
			if m.Kind != isAppend {
				t.Fatalf("sent %s", brief(next))
			}
		}
		if len(next) != 2 {
			t.Fatalf("sent %s", brief(next))
		}
	}
}

// TestSpareRoomIsNotRead: what stands behind the length of a list is none of it.
func TestSpareRoomIsNotRead(t *testing.T) {
	l := []api.Entry{en(1, "a"), en(2, "b"), of(2, 3), en(3, "d"), spoilt()}
	for n := range len(l) {
		x := begin(t, 0, logged(3, l[:n]...), 0)
		x.logs(slices.Clone(l[:n])...)
		x = begin(t, 0, fresh(), 0)
		m := appends(1, 0, 3, 0, 0, 0)
		m.Entries = l[:n]
		x.take(m)
		x.says(ack(0, 1, 3, true, n))
		x.logs(slices.Clone(l[:n])...)
		y := leading(t, fresh(), 1)
		data := []string{"a", "b", "c", text(longEntry + 1)}
		y.propose(data[:min(n, 3)]...)
		if got := len(y.c.Hard().Log); got != 1+min(n, 3) {
			t.Error(got)
		}
	}
}

// TestNilAndEmptyAreTheSame, handed in; of answers each list without elements will do.
func TestNilAndEmptyAreTheSame(t *testing.T) {
	for _, l := range [][]api.Entry{nil, {}, make([]api.Entry, 0, 9), abc()[:0]} {
		h := fresh()
		h.Log = l
		begin(t, 0, h, 0).has(fresh())
		for kind := range 6 {
			for k, x := range roles(t) {
				m := each(5)[kind]
				m.Entries = l
				y := roles(t)[k]
				x.take(m)
				y.take(each(5)[kind])
				x.says(y.out()...)
				x.has(y.c.Hard())
			}
		}
	}
	for _, l := range [][]string{nil, {}, make([]string, 0, 9)} {
		leadingQuietly(t).proposes(0, false, l...)
	}
}

func leadingQuietly(t *testing.T) *core {
	x := leading(t, fresh(), 1)
	x.out()
	return x
}

// TestCoresShareNothing: what one is told, no other one knows of.
func TestCoresShareNothing(t *testing.T) {
	a, b := begin(t, 0, five(), 0), begin(t, 0, five(), 0)
	for range 3 {
		a.ticks(10, 0)
		a.take(vote(1, 0, a.c.Hard().Term, true))
		a.propose("x")
	}
	b.has(five())
	b.is(follows, -1, 5, 7, 10, 7)
	b.says()
}

// TestTheSameAgain: two cores that are told the same say the same, whatever else is done between.
func TestTheSameAgain(t *testing.T) {
	for seed := range int64(20) {
		g, f := newGroup(t, seed, fresh(), false), newGroup(t, seed, fresh(), false)
		other := newGroup(t, seed+100, fresh(31), false)
		w := weather{lost: 5, twice: 10, late: 40, anew: 3, split: 3}
		for range 1500 {
			g.step(w)
			other.step(w)
			f.step(w)
			if !slices.EqualFunc(g.under, f.under, sameLetter) || !slices.Equal(g.views, f.views) || !slices.EqualFunc(g.hards, f.hards, sameHard) {
				t.Fatal("two groups differ")
			}
		}
	}
}

// TestAnythingEnds hands in what is drawn without a thought to what it means.
func TestAnythingEnds(t *testing.T) {
	draw := rand.New(rand.NewSource(2203))
	wild := func() int { return pick(draw, least, -1, 0, 1, 5, 7, 127, 128, topTerm, topIndex, most, draw.Int()) }
	for range 300 {
		h := api.Hard{Term: wild(), Vote: wild(), Base: wild(), BaseTerm: wild(), Members: wild(), Snap: text(draw.Intn(3))}
		for range draw.Intn(4) {
			h.Log = append(h.Log, api.Entry{Term: wild(), Members: wild(), Data: text(draw.Intn(3))})
		}
		if c, e := raft.New(wild(), h, wild()); (c == nil) != (e != api.OK) {
			t.Fatal(c, e)
		}
		x := begin(t, draw.Intn(2), rightHards()[draw.Intn(len(rightHards()))], wild())
		for range 60 {
			x.tick(wild())
			x.take(wildLetter(draw))
			x.change(wild())
			x.compact(wild(), text(pick(draw, 0, 1, longImage+1)))
			x.propose(make([]string, pick(draw, 0, 1, 300))...)
		}
	}
}
