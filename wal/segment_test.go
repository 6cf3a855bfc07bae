package wal_test

import (
	"bytes"
	"fmt"
	"math/rand"
	"slices"
	"strings"
	"testing"

	"impost/api"
)

// P18.2

// TestNames lays files that are no whole segments: those that are named as one are removed, all others stay.
func TestNames(t *testing.T) {
	segments := []string{"wal.0", "wal.1", "wal.9", "wal.10", "wal.100", "wal.12345678901234", "wal.99999999999999", "wal.10000000000000"}
	others := []string{
		"wal", "wal.", "wal.00", "wal.01", "wal.007", "wal.00000000000001", "wal.010", "wal.100000000000000", "wal.123456789012345", "wal.999999999999999", "wal.000000000000001", "wal.18446744073709551617",
		"wal.-1", "wal.+1", "wal.-0", "wal.1.", "wal..1", "wal.1.2", "wal.a", "wal.1a", "wal.a1", "wal.1a1", "wal.x", "wal.0x1", "wal.1e1", "wal.1_0", "wal./", "wal.:", "wal.1/", "wal.1:", "wal./1", "wal.:1", "wal.tmp",
		"wal1", "wal,1", "wal:1", "Wal.1", "WAL.1", "awal.1", ".wal.1", "wal.wal.1", "al.1", "wl.1", "waw.1", "wam.1", "snap.1", "1", "~", "!",
	}
	for _, name := range segments {
		p := both()
		p.lay(name, []byte("nothing"))
		p.opened(t)
		names(t, p.d)
	}
	p := both()
	for _, name := range append(slices.Clone(segments), others...) {
		p.lay(name, []byte("nothing"))
	}
	p.opened(t)
	want := slices.Clone(others)
	slices.Sort(want)
	names(t, p.d, want...)
	for _, name := range others {
		p := both()
		p.lay(name, records(laid(plain())...))
		p.opened(t)
		names(t, p.d, name)
		isHard(t, p.w, api.Hard{Vote: -1})
	}
}

// base is a Hard with a snapshot ahead of its entries, and no vote yet.
func base() api.Hard {
	return api.Hard{Term: 3, Vote: -1, Base: 4, BaseTerm: 1, Members: 7, Log: log(en(1, "x"), of(2, 15), en(2, ""))}
}

// reads opens a file of these records, of which so many must hold: with nothing behind them, and with something.
func reads(t *testing.T, what any, count int, want api.Hard, l ...[]byte) {
	t.Helper()
	for _, tail := range [][]byte{nil, {0}, {1, 2, 3}, make([]byte, 30)} {
		p := both()
		p.lay("wal.7", append(records(l...), tail...))
		p.opened(t)
		if count == 0 {
			if len(p.d.Names()) != 0 || !same(p.w.Hard(), api.Hard{Vote: -1}) {
				t.Fatalf("%v: %q, %s", what, p.d.Names(), brief(p.w.Hard()))
			}
			continue
		}
		if got := p.w.Hard(); !same(got, want) {
			t.Fatalf("%v: %s, not %s", what, brief(got), brief(want))
		}
		names(t, p.d, "wal.7")
		holds(t, p.d, "wal.7", records(l[:count]...))
	}
}

// more has records behind those of base: so many of them hold.
func more(t *testing.T, what any, count int, want api.Hard, l ...[]byte) {
	t.Helper()
	head := laid(base())
	reads(t, what, len(head)+count, want, append(head, l...)...)
}

// TestRecordsByBytes has each record's bytes written out.
func TestRecordsByBytes(t *testing.T) {
	reads(t, "all", 7, api.Hard{Term: 65, Vote: 6, Base: 4, BaseTerm: 1, Members: 127, Log: log(en(1, "ab"), en(2, ""))},
		[]byte{2, 4, 1, 8, 2, 0xfe, 1},
		[]byte{4, 2, 0, 4, 'a', 'b'},
		[]byte{4, 4, 0x0e, 0},
		[]byte{6},
		[]byte{8, 0x82, 1, 0x0c},
		[]byte{0x0a, 0x0a},
		[]byte{4, 4, 0, 0},
	)
}

// TestEachKindAtEachPlace has each record ahead of the begin, behind it, behind an entry, and behind the ready.
func TestEachKindAtEachPlace(t *testing.T) {
	h := api.Hard{Term: 2, Vote: -1, Members: 7, Log: log(en(1, "a"))}
	a := entry(en(1, "a"))
	two := h
	two.Log = log(en(1, "a"), en(1, "a"))
	for _, c := range []struct {
		what   string
		p      []byte
		within bool // it may stand ahead of the ready
		behind *api.Hard
	}{
		{"begin", begin(h), false, nil},
		{"entry", a, true, &two},
		{"ready", ready(), false, nil},
		{"vote", vote(2, 5), false, &api.Hard{Term: 2, Vote: 5, Members: 7, Log: h.Log}},
		{"cut", cut(0), false, &api.Hard{Term: 2, Vote: -1, Members: 7}},
		{"cut of none", cut(1), false, &h},
		{"0", nums(0), false, nil},
		{"6", nums(6), false, nil},
		{"-1", nums(-1), false, nil},
		{"6 and numbers", nums(6, 1, 2), false, nil},
		{"257", nums(257), false, nil},
	} {
		reads(t, c.what, 0, h, c.p, begin(h), a, ready())
		if c.within {
			reads(t, c.what, 4, two, begin(h), c.p, a, ready())
			reads(t, c.what, 4, two, begin(h), a, c.p, ready())
		} else if c.what != "ready" {
			reads(t, c.what, 0, h, begin(h), c.p, a, ready())
			reads(t, c.what, 0, h, begin(h), a, c.p, ready())
		}
		if c.behind == nil {
			reads(t, c.what, 3, h, begin(h), a, ready(), c.p)
			reads(t, c.what, 3, h, begin(h), a, ready(), c.p, vote(2, 5))
		} else {
			reads(t, c.what, 4, *c.behind, begin(h), a, ready(), c.p)
		}
		reads(t, c.what, 0, h, c.p)
	}
	reads(t, "no entries", 2, api.Hard{Term: 2, Vote: -1, Members: 7}, begin(h), ready())
	reads(t, "a ready, and an entry", 3, h, begin(h), ready(), a)
	reads(t, "no ready", 0, h, begin(h), a)
	reads(t, "no begin", 0, h, a, ready())
	reads(t, "a begin alone", 0, h, begin(h))
	reads(t, "nothing", 0, h)
}

// TestJustSoLong has records that are a byte too long or too short, or whose numbers are in another form.
func TestJustSoLong(t *testing.T) {
	long := func(p []byte, b ...byte) []byte { return append(slices.Clone(p), b...) }
	h := base()
	for _, p := range [][]byte{vote(3, 5), vote(4, -1), cut(5), cut(7), entry(en(3, "")), entry(en(3, "abc")), entry(of(3, 5)), entry(en(2, strings.Repeat("d", longEntry)))} {
		for _, q := range [][]byte{long(p, 0), long(p, 1), long(p, 0, 0), long(p, p...), p[:len(p)-1], p[:1], long([]byte{0}, p...)} {
			more(t, fmt.Sprintf("% x", q[:min(len(q), 9)]), 0, h, q)
		}
		// 80 put to a last byte and a nought behind it: the same number in another form
		for k := range min(len(p), 3) {
			if p[k] < 128 {
				q := slices.Concat(p[:k], []byte{p[k] | 128, 0}, p[k+1:])
				more(t, fmt.Sprintf("% x", q[:min(len(q), 9)]), 0, h, q)
			}
		}
	}
	e := entry(en(1, "x"))
	for _, l := range [][][]byte{
		{long(begin(h), 0), e, ready()}, {begin(h)[:len(begin(h))-1], e, ready()}, {begin(h), long(e, 0), ready()}, {begin(h), e[:len(e)-1], ready()}, {begin(h), e, long(ready(), 0)}, {begin(h), e, {0x86, 0}}, {begin(h), e, long(ready(), 6)},
	} {
		reads(t, "not whole", 0, h, l...)
	}
	// a text's number of bytes that is more than there are, fewer, or none at all
	for _, q := range [][]byte{append(nums(2, 3, 0, 2), 'a'), append(nums(2, 3, 0, 1), 'a', 'b'), append(nums(2, 3, 0, -1), 'a'), nums(2, 3, 0, -1), append(nums(2, 3, 0, most), 'a'), append(nums(2, 3, 0, least), 'a'), nums(2, 3, 0)} {
		more(t, fmt.Sprintf("% x", q), 0, h, q)
	}
}

// TestVotes has votes of each Term and Vote, where there is a Vote and where there is none.
func TestVotes(t *testing.T) {
	for _, was := range []int{-1, 0, 6} {
		for _, term := range []int{least, -1, 0, 1, 2, 3, 4, 9, topTerm, topTerm + 1, most} {
			for _, who := range []int{least, -2, -1, 0, 1, 6, 7, most} {
				h := base()
				h.Vote = was
				n := len(h.Log) + 2
				next := h
				ok := term <= topTerm && who >= -1 && who <= 6 && (term > 3 || term == 3 && was == -1)
				if ok {
					next.Term, next.Vote, n = term, who, n+1
				}
				reads(t, []int{was, term, who}, n, next, append(laid(h), vote(term, who))...)
			}
		}
	}
}

// TestVotesInARow has several, each behind what the ones ahead left.
func TestVotesInARow(t *testing.T) {
	at := func(term, who int) api.Hard {
		h := base()
		h.Term, h.Vote = term, who
		return h
	}
	more(t, "none, then one", 3, at(4, 2), vote(3, -1), vote(4, -1), vote(4, 2))
	more(t, "the same again", 1, at(3, 2), vote(3, 2), vote(3, 2))
	more(t, "another one", 1, at(3, 2), vote(3, 2), vote(3, 1))
	more(t, "back to none", 1, at(3, 2), vote(3, 2), vote(3, -1))
	more(t, "back", 1, at(9, 2), vote(9, 2), vote(8, 2))
	more(t, "the last Term", 2, at(topTerm, 6), vote(topTerm, -1), vote(topTerm, 6), vote(topTerm, 6))
	h := at(8, 2)
	h.Log = append(h.Log, en(8, "late"))
	more(t, "an entry of the new Term", 2, h, vote(8, 2), entry(en(8, "late")), entry(en(9, "")))
	h.Log = append(h.Log, of(8, 1))
	more(t, "a vote between", 3, h, vote(8, 2), entry(en(8, "late")), entry(of(8, 1)), vote(8, 2))
}

// TestCuts has cuts at each number about the Log, and at numbers far away.
func TestCuts(t *testing.T) {
	for _, from := range []int{0, 1, 4, topIndex - 3} {
		for size := range 4 {
			h := api.Hard{Term: 3, Vote: 1, Base: from, Members: 7, Log: slices.Clone(base().Log[:size])}
			if from > 0 {
				h.BaseTerm = 1
			}
			for _, to := range []int{least, -1, 0, from - 1, from, from + 1, from + 2, from + 3, from + 4, topIndex + 1, most} {
				n, next := size+2, h
				if to >= from && to <= from+size {
					n++
					next.Log = h.Log[:to-from]
				}
				reads(t, []int{from, size, to}, n, next, append(laid(h), cut(to))...)
			}
		}
	}
}

// TestCutsInARow has entries behind cuts, which may be of a lesser Term than what was cut off.
func TestCutsInARow(t *testing.T) {
	h := base()
	with := func(l ...api.Entry) api.Hard {
		h := base()
		h.Log = l
		return h
	}
	x := h.Log[0]
	more(t, "fewer and fewer", 3, with(), cut(6), cut(5), cut(4))
	more(t, "what isn't there any more", 1, with(x), cut(5), cut(6))
	more(t, "others", 3, with(x, en(1, "new"), en(3, "newer")), cut(5), entry(en(1, "new")), entry(en(3, "newer")))
	more(t, "then again", 4, with(x, en(1, "last")), cut(5), entry(en(3, "gone")), cut(5), entry(en(1, "last")))
	more(t, "a Term below BaseTerm", 1, with(), cut(4), entry(en(0, "")))
	more(t, "none left: BaseTerm", 2, with(en(1, "")), cut(4), entry(en(1, "")))
}

// TestEntriesThatFit has entries, behind the ready and ahead of it, at each edge.
func TestEntriesThatFit(t *testing.T) {
	long := strings.Repeat("d", longEntry)
	for _, c := range []struct {
		e  api.Entry
		ok bool
	}{
		{en(2, ""), true}, {en(2, "a"), true}, {en(3, ""), true}, {en(3, long), true}, {of(2, 1), true}, {of(3, 127), true},
		{en(1, ""), false}, {en(0, ""), false}, {en(-1, ""), false}, {en(least, ""), false}, {en(4, ""), false}, {en(topTerm, ""), false}, {en(topTerm+1, ""), false}, {en(most, ""), false},
		{en(2, long+"d"), false}, {en(2, strings.Repeat("d", 1<<16)), false}, {of(2, -1), false}, {of(2, 128), false}, {of(2, least), false}, {of(2, most), false}, {api.Entry{Term: 2, Members: 1, Data: "a"}, false}, {api.Entry{Term: 2, Members: 127, Data: long}, false},
	} {
		h := base()
		n := 0
		if c.ok {
			h.Log, n = append(h.Log, c.e), 1
		}
		more(t, c.e.Term, n, h, entry(c.e), vote(2, 0))
		ahead := laid(base())
		reads(t, c.e.Term, n*6, h, append(ahead[:4:4], entry(c.e), ready())...)
	}
	h := api.Hard{Term: 3, Vote: -1, Members: 7}
	reads(t, "the first of all", 0, h, begin(h), entry(en(0, "")), ready())
	reads(t, "the first of all", 2, h, begin(h), ready(), entry(en(0, "")))
}

// TestHowManyEntries has as many as there may be, and one more, at any Base and at the last numbers.
func TestHowManyEntries(t *testing.T) {
	for _, c := range []struct{ from, may int }{{0, longLog}, {5, longLog}, {topIndex - longLog, longLog}, {topIndex - longLog + 1, longLog - 1}, {topIndex - 1, 1}, {topIndex, 0}} {
		for _, n := range []int{c.may - 1, c.may, c.may + 1, c.may + 2} {
			if n < 0 {
				continue
			}
			h := api.Hard{Term: 3, Vote: -1, Base: c.from, Members: 7, Log: slices.Repeat(log(en(1, "")), n)}
			if c.from > 0 {
				h.BaseTerm = 1
			}
			want := h
			want.Log = h.Log[:min(n, c.may)]
			hold := n + 2
			if n > c.may {
				hold = 0
			}
			reads(t, []int{c.from, n}, hold, want, laid(h)...)
			begun := append([][]byte{begin(h), ready()}, laid(h)[1:n+1]...)
			reads(t, []int{c.from, n}, min(n, c.may)+2, want, begun...)
		}
	}
}

// TestBegins has begins with each number at its edges.
func TestBegins(t *testing.T) {
	for _, c := range []struct {
		h  api.Hard
		ok bool
	}{
		{api.Hard{Term: 0, Vote: -1, Members: 1}, true}, {api.Hard{Term: 0, Vote: 6, Members: 127}, true}, {api.Hard{Term: topTerm, Vote: 0, Base: topIndex, BaseTerm: topTerm, Members: 64}, true}, {api.Hard{Term: 1, Base: 1, BaseTerm: 1, Members: 1}, true},
		{api.Hard{Term: -1, Members: 1}, false}, {api.Hard{Term: topTerm + 1, Members: 1}, false}, {api.Hard{Vote: -2, Members: 1}, false}, {api.Hard{Vote: 7, Members: 1}, false}, {api.Hard{Term: 5, Base: -1, BaseTerm: 1, Members: 1}, false}, {api.Hard{Term: 5, Base: topIndex + 1, BaseTerm: 1, Members: 1}, false},
		{api.Hard{Term: 5, Base: 1, BaseTerm: 6, Members: 1}, false}, {api.Hard{Term: 5, Base: 1, Members: 1}, false}, {api.Hard{Term: 5, BaseTerm: 1, Members: 1}, false}, {api.Hard{Term: 5, Base: 1, BaseTerm: -1, Members: 1}, false}, {api.Hard{Members: 0}, false}, {api.Hard{Members: 128}, false}, {api.Hard{Members: -1}, false},
		{api.Hard{Term: most, Members: 1}, false}, {api.Hard{Vote: least, Members: 1}, false}, {api.Hard{Term: 5, Base: most, BaseTerm: 1, Members: 1}, false}, {api.Hard{Members: most}, false},
	} {
		n := 0
		if c.ok {
			n = 2
		}
		reads(t, brief(c.h), n, c.h, begin(c.h), ready())
	}
}

// TestFramesThatCannotBeRead spoils frames of a whole segment with records behind it.
func TestFramesThatCannotBeRead(t *testing.T) {
	h := base()
	full := records(append(laid(h), vote(3, 2), cut(6), entry(en(3, "more")))...)
	for n := range len(full) + 1 {
		p := both()
		p.lay("wal.7", full[:n])
		p.opened(t)
	}
	for at := range full {
		for _, turn := range []byte{1, 0x80, 0xff} {
			b := slices.Clone(full)
			b[at] ^= turn
			p := both()
			p.lay("wal.7", b)
			p.opened(t)
			if n := len(p.w.Hard().Log); n > 3 || at < len(records(laid(h)...)) && len(p.d.Names()) != 0 {
				t.Fatalf("%d turned at %d: %d entries", turn, at, n)
			}
		}
	}
	// a frame that is none, and a right record behind it
	for _, b := range [][]byte{{0, 0, 0, 0}, make([]byte, 8), {1, 0, 2, 0, 9}, {255, 255, 255, 255}, framed(ready())[:8]} {
		p := both()
		p.lay("wal.7", bytes.Join([][]byte{records(laid(h)...), b, records(vote(3, 2))}, nil))
		p.opened(t)
		holds(t, p.d, "wal.7", records(laid(h)...))
	}
}

// TestALongFile has more records than any Save writes.
func TestALongFile(t *testing.T) {
	h := api.Hard{Term: 1, Vote: -1, Members: 7}
	one := bytes.Join([][]byte{records(entry(en(1, "a"))), records(entry(en(1, "b"))), records(cut(1))}, nil)
	all := append(records(begin(h), ready(), entry(en(1, "z"))), bytes.Repeat(one, 60000)...)
	p := both()
	p.d.Append("wal.7", append(all, 1))
	p.twin.Append("wal.7", all)
	p.open(t)
	names(t, p.d, "wal.7")
	holds(t, p.d, "wal.7", all)
	h.Log = log(en(1, "z"))
	isHard(t, p.w, h)
}

// TestDrawnFiles has records drawn, most of which may stand where they do.
func TestDrawnFiles(t *testing.T) {
	draw := rand.New(rand.NewSource(182))
	count := map[string]int{}
	for range 20000 {
		h := drawnHard(draw)
		l := laid(h)
		for range draw.Intn(12) {
			l = append(l, drawnRecord(draw, h))
		}
		if draw.Intn(4) == 0 {
			at := draw.Intn(len(l))
			l = slices.Insert(l, at, drawnRecord(draw, h))
		}
		b := records(l...)
		if draw.Intn(3) == 0 {
			b = append(b, make([]byte, draw.Intn(12))...)
		}
		p := both()
		p.lay("wal.7", b)
		p.opened(t)
		switch {
		case !p.m.there:
			count["none"]++
		case p.d.Total() < len(b):
			count["cut"]++
		default:
			count["all"]++
		}
	}
	for _, what := range []string{"none", "cut", "all"} {
		if count[what] < 500 {
			t.Errorf("%v", count)
		}
	}
}

// drawnHard is right.
func drawnHard(draw *rand.Rand) api.Hard {
	h := api.Hard{Term: draw.Intn(5), Vote: draw.Intn(4) - 1, Members: 1 + draw.Intn(3)}
	if h.Term > 0 && draw.Intn(2) == 0 {
		h.Base, h.BaseTerm = 1+draw.Intn(3), 1+draw.Intn(h.Term)
		h.Snap = "snap"
	}
	return grown(draw, h, draw.Intn(5))
}

// grown is h with up to n entries more, in memory of its own.
func grown(draw *rand.Rand, h api.Hard, n int) api.Hard {
	h.Log = slices.Clone(h.Log)
	for range n {
		ahead := h.BaseTerm
		if len(h.Log) > 0 {
			ahead = h.Log[len(h.Log)-1].Term
		}
		low := max(1, ahead)
		if low > h.Term || len(h.Log) == longLog {
			return h
		}
		h.Log = append(h.Log, drawnEntry(draw, low+draw.Intn(h.Term-low+1)))
	}
	return h
}

// drawnEntry is one of few, so that equal ones come.
func drawnEntry(draw *rand.Rand, term int) api.Entry {
	switch draw.Intn(8) {
	case 0:
		return of(term, 1+draw.Intn(allNodes))
	case 1:
		return en(term, strings.Repeat("long", 1+draw.Intn(longEntry/4)))
	case 2, 3:
		return en(term, "a")
	case 4:
		return en(term, "b")
	}
	return en(term, "")
}

// drawnRecord is one that may often stand behind those of h.
func drawnRecord(draw *rand.Rand, h api.Hard) []byte {
	switch draw.Intn(16) {
	case 0:
		return begin(h)
	case 1:
		return ready()
	case 2, 3, 4:
		return vote(h.Term+draw.Intn(4)-1, draw.Intn(4)-1)
	case 5, 6, 7, 8:
		return cut(h.Base + draw.Intn(7) - 1)
	case 9:
		b := make([]byte, 1+draw.Intn(9))
		draw.Read(b)
		return b
	}
	return entry(drawnEntry(draw, h.Term+draw.Intn(3)-1))
}
