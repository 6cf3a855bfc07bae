package image_test

import (
	"bytes"
	"fmt"
	"math/rand"
	"slices"
	"strings"
	"testing"

	"impost/api"
	"impost/image"
)

// P15.2

func TestGetByHand(t *testing.T) {
	want, b := byHand()
	if s, e := image.Get(b); e != api.OK || !same(s, want) {
		t.Errorf("%v, %v, not\n%v", s, e, want)
	}
}

// samples are right states of many kinds.
func samples(t *testing.T) []api.State {
	hand, _ := byHand()
	out := []api.State{{Next: 1}, hand}
	for _, s := range []api.State{
		wide(0, 1, 1, 1, 1), wide(1, 2, 5, 3, 2), wide(3, 3, 4, 1, 8),
		sums([]api.Part{part("x", 0, most), part("y", 0, most), part("z", 0, -most)}, []api.Part{part("x", 0, -most)}),
		bills(bill("a", today(), part("x", 5, 0)), back("a", today(), ref("a", 1), part("x", 5, 0)), bill("b", today(), part("x", 5, 1)), back("b", today(), ref("b", 1), part("x", 5, -1))),
	} {
		out = append(out, right(t, s))
	}
	return out
}

// TestCuts: each shorter beginning ends too early.
func TestCuts(t *testing.T) {
	for _, s := range samples(t) {
		b := image.Put(s)
		for n := range b {
			refused(t, b[:n], api.ErrShort)
			refused(t, bytes.Clone(b[:n]), api.ErrShort)
		}
	}
}

// TestTails: whatever stands behind the end, it is told ahead of what can't be.
func TestTails(t *testing.T) {
	states := samples(t)
	for _, x := range notRight() {
		states = append(states, x.s)
	}
	for _, s := range states {
		b := written(s)
		for _, x := range []byte{0, 1, 2, 0x7f, 0x80, 0xff} {
			refused(t, append(slices.Clip(b), x), api.ErrTail)
		}
		refused(t, append(slices.Clip(b), b...), api.ErrTail)
		refused(t, append(slices.Clip(b), make([]byte, 1000)...), api.ErrTail)
	}
}

// TestEachByteTurned holds what comes of any one byte that is another against the model.
func TestEachByteTurned(t *testing.T) {
	met := map[api.Errno]int{}
	for _, s := range samples(t) {
		b := image.Put(s)
		for at := range b {
			for x := 1; x < 256; x++ {
				c := bytes.Clone(b)
				c[at] ^= byte(x)
				met[held(t, c)]++
			}
		}
	}
	for _, e := range []api.Errno{api.OK, api.ErrLong, api.ErrShort, api.ErrForm, api.ErrTail} {
		if met[e] < 100 {
			t.Error("seldom:", e, met)
		}
	}
}

// TestEachByteMissingOrDoubled likewise.
func TestEachByteMissingOrDoubled(t *testing.T) {
	for _, s := range samples(t) {
		b := image.Put(s)
		for at := range b {
			held(t, slices.Concat(b[:at], b[at+1:]))
			held(t, slices.Concat(b[:at+1], b[at:]))
			held(t, slices.Concat(b[:at], []byte{0}, b[at:]))
		}
	}
}

// with is l laid, but for the token at that place, which is given as bytes.
func with(l []token, at int, b []byte) []byte {
	return slices.Concat(laid(l[:at]...), b, laid(l[at+1:]...))
}

// TestCounts: what is beyond a list's limit is ErrLong; what is within it but has fewer bytes behind it is ErrShort.
func TestCounts(t *testing.T) {
	seen := map[int]int{}
	for _, s := range samples(t) {
		l := tokens(s)
		for at, x := range l {
			if x.most < 0 {
				continue
			}
			seen[x.most]++
			for _, n := range []int{far, -cap40, -2, -1, x.most + 1, x.most + 2, 64, 1 << 31, 1 << 32, cap40, most} {
				refused(t, with(l, at, digits(n)), api.ErrLong)
				refused(t, slices.Concat(laid(l[:at]...), digits(n)), api.ErrLong)
			}
			for n := 1; n <= x.most; n++ {
				refused(t, slices.Concat(laid(l[:at]...), digits(n), make([]byte, n-1)), api.ErrShort)
			}
		}
	}
	if seen[maxRates] == 0 || seen[maxPosted] == 0 || seen[maxParts] == 0 || seen[8] < 2 {
		t.Error(seen)
	}
}

// TestCountsAreAskedOfTheirBytes: a count that has fewer bytes behind it than it tells is told as short, though what stands there isn't in form.
func TestCountsAreAskedOfTheirBytes(t *testing.T) {
	for _, c := range []struct {
		b    []byte
		want api.Errno
	}{
		{[]byte{48}, api.ErrShort}, {[]byte{50}, api.ErrLong}, {slices.Concat([]byte{48}, bytes.Repeat([]byte{1}, 23)), api.ErrShort}, {slices.Concat([]byte{48}, bytes.Repeat([]byte{1}, 24)), api.ErrLong},
		{[]byte{0, 16}, api.ErrShort}, {[]byte{0, 18}, api.ErrLong}, {slices.Concat([]byte{0, 16}, bytes.Repeat([]byte{1}, 7)), api.ErrShort}, {slices.Concat([]byte{0, 16}, bytes.Repeat([]byte{1}, 8)), api.ErrLong},
		{[]byte{0, 0, 80}, api.ErrShort}, {[]byte{0, 0, 82}, api.ErrLong}, {slices.Concat([]byte{0, 0, 80}, bytes.Repeat([]byte{1}, 39)), api.ErrShort}, {slices.Concat([]byte{0, 0, 80}, bytes.Repeat([]byte{1}, 40)), api.ErrLong},
		{[]byte{0, 0, 0, 16}, api.ErrShort}, {[]byte{0, 0, 0, 18}, api.ErrLong},
		{[]byte{0, 0, 2, 0, 0, 0, 0, 0, 0, 24}, api.ErrShort}, {[]byte{0, 0, 2, 0, 0, 0, 0, 0, 0, 26}, api.ErrLong},
	} {
		refused(t, c.b, c.want)
	}
}

// TestTexts: one of MaxText bytes is read, and is no name; one more is too long, whatever stands behind it.
func TestTexts(t *testing.T) {
	hand, _ := byHand()
	l := tokens(hand)
	n := 0
	for at, x := range l {
		if !x.text {
			continue
		}
		n++
		for _, size := range []int{25, maxText - 1, maxText} {
			refused(t, with(l, at, lay(txt(strings.Repeat("x", size)))), api.ErrForm)
		}
		for _, size := range []int{maxText + 1, maxText + 2, 128, 1 << 20} {
			refused(t, with(l, at, lay(txt(strings.Repeat("x", size)))), api.ErrLong)
		}
		for _, size := range []int{far, -1, maxText + 1, cap40, most} {
			refused(t, with(l, at, digits(size)), api.ErrLong)
			refused(t, slices.Concat(laid(l[:at]...), digits(size), make([]byte, maxText-1)), api.ErrLong)
		}
		for _, size := range []int{1, 2, maxText} {
			refused(t, slices.Concat(laid(l[:at]...), digits(size), bytes.Repeat([]byte{'x'}, size-1)), api.ErrShort)
		}
		for _, s := range []string{"\xff", "x\xff", "\xc3", "\xc3(", "7", "x x", "x/y", "\x00", "\u0394", "\u2603"} {
			refused(t, with(l, at, lay(txt(s))), api.ErrForm)
		}
	}
	if n != 2+2+6+5 {
		t.Error(n)
	}
}

// TestLongNumbers: a number that is written longer than it need be is refused, wherever it stands.
func TestLongNumbers(t *testing.T) {
	for _, s := range samples(t) {
		l := tokens(s)
		for at, x := range l {
			head, body := digits(x.n), ""
			if x.text {
				head, body = digits(len(x.s)), x.s
			}
			long := bytes.Clone(head)
			for len(long) < 12 {
				long[len(long)-1] |= 0x80
				long = append(long, 0)
				refused(t, with(l, at, append(bytes.Clone(long), body...)), api.ErrForm)
			}
			for _, last := range []byte{2, 3, 0x7f, 0x80, 0x81, 0xff} {
				refused(t, with(l, at, append(bytes.Repeat([]byte{0xff}, 9), last)), api.ErrForm)
			}
		}
	}
}

func TestFlags(t *testing.T) {
	hand, _ := byHand()
	l := tokens(hand)
	n := 0
	for at, x := range l {
		if !x.flag {
			continue
		}
		n++
		for _, f := range []int{far, -2, -1, 2, 3, 256, 1 << 32, most} {
			refused(t, with(l, at, digits(f)), api.ErrForm)
		}
		for _, f := range []bool{false, true} {
			s := edited(func(s *api.State) { s.Series[n-1].Shut = f })
			if got, e := image.Get(with(l, at, lay(flag(f)))); e != api.OK || !same(got, s) {
				t.Error(n, f, got, e)
			}
		}
	}
	if n != 2 {
		t.Error(n)
	}
}

// TestTheFirstErrorIsTold: of several faults that of the first place.
func TestTheFirstErrorIsTold(t *testing.T) {
	hand, _ := byHand()
	l := tokens(hand)
	form, long := []byte{0x80, 0x00}, digits(most)
	var counts []int
	for at, x := range l {
		if x.most >= 0 {
			counts = append(counts, at)
		}
	}
	for i, at := range counts {
		for _, later := range counts[i+1:] {
			between := laid(l[at+1 : later]...)
			rest := laid(l[later+1:]...)
			refused(t, slices.Concat(laid(l[:at]...), form, between, long, rest), api.ErrForm)
			refused(t, slices.Concat(laid(l[:at]...), long, between, form, rest), api.ErrLong)
			refused(t, slices.Concat(laid(l[:at]...), long, between, form, rest, []byte{9}), api.ErrLong)
		}
	}
}

// TestFarNumbers puts the least and the greatest numbers, and some that lie at edges, in the place of each number.
func TestFarNumbers(t *testing.T) {
	edges := []int{far, far + 1, far / 2, -cap40, -129, -128, -65, -64, -1, 0, 1, 63, 64, 65, 100000, 100001, cap40 - 1, cap40, cap40 + 1, most / 2, most - 1, most}
	for _, s := range samples(t) {
		l := tokens(s)
		for at, x := range l {
			for _, n := range edges {
				held(t, with(l, at, digits(n)))
			}
			if x.text || x.flag || x.most >= 0 {
				continue
			}
			for _, n := range []int{x.n - 1, x.n + 1, -x.n, 2 * x.n} {
				held(t, with(l, at, digits(n)))
			}
		}
	}
}

// TestWhatCanNotBe: written in form, each of these is no state.
func TestWhatCanNotBe(t *testing.T) {
	x, off := part("x", 1900, 100), part("x", 1900, -100)
	d, later, early := today(), day(2026, 11, 16), day(2026, 11, 14)
	one := func(bp, net int) api.State { return sums([]api.Part{part("x", bp, net)}) }
	for i, s := range []api.State{
		// an Of that names one behind
		bills(back("a", d, ref("a", 2), off), bill("a", d, x)), bills(back("a", d, ref("b", 1), part("x", 0, 0)), bill("b", d, part("x", 0, 0))),
		// itself
		bills(back("a", d, ref("a", 1), part("x", 0, 0))), bills(bill("a", d, x), back("a", d, ref("a", 2), off)), bills(bill("a", d, part("x", 0, 0)), back("a", d, ref("a", 2), part("x", 0, 0))),
		// a credit
		bills(bill("a", d, x), back("a", d, ref("a", 1), off), back("a", d, ref("a", 2), x)), bills(bill("a", d, part("x", 0, 0)), back("b", d, ref("a", 1), part("x", 0, 0)), back("b", d, ref("b", 1), part("x", 0, 0))),
		// none
		bills(bill("a", d, x), back("a", d, ref("a", 3), off)), bills(bill("a", d, x), back("a", d, ref("a", 0), off)), bills(bill("a", d, x), back("a", d, ref("a", -1), off)), bills(bill("a", d, x), back("a", d, ref("b", 1), off)),
		bills(bill("a", d, x), back("a", d, ref("", 1), off)), bills(bill("a", d, x), back("a", d, ref("c", 1), off)), bills(bill("a", d, x), back("a", d, ref("A", 1), off)), bills(bill("a", d, x), back("a", d, ref("a", most), off)), bills(back("a", d, ref("a", far), off)),
		// two credits of one invoice
		bills(bill("a", d, x), back("a", d, ref("a", 1), off), back("a", d, ref("a", 1), off)), bills(bill("a", d, x), back("a", d, ref("a", 1), off), bill("a", d, x), back("b", d, ref("a", 1), off)),
		// a credit ahead of its invoice's day
		bills(bill("a", d, x), back("a", early, ref("a", 1), off)), bills(bill("a", later, x), back("a", d, ref("a", 1), off)), bills(bill("a", d, x), back("a", day(1, 1, 1), ref("a", 1), off)),
		// a credit of another total
		bills(bill("a", d, x), back("a", d, ref("a", 1), x)), bills(bill("a", d, x), back("a", d, ref("a", 1), part("x", 1900, -99))), bills(bill("a", d, x), back("a", d, ref("a", 1), part("y", 1900, -100))), bills(bill("a", d, x), back("a", d, ref("a", 1), part("x", 1901, -100))), bills(bill("a", d, x), back("a", d, ref("a", 1), off, part("y", 0, 0))),
		// a series that isn't there
		bills(bill("c", d, x)), bills(bill("", d, x)), bills(bill("A", d, x)), {Next: 1, Posted: []api.Posted{bill("a", d, x)}},
		// a day that isn't right
		bills(bill("a", api.Date{}, x)), bills(bill("a", day(2026, 2, 29), x)), bills(bill("a", day(2026, 11, 31), x)), bills(bill("a", day(10000, 1, 1), x)), bills(bill("a", day(-1, 1, 1), x)), bills(bill("a", d, x), back("a", day(2027, 13, 1), ref("a", 1), off)),
		{Next: 1, Table: []api.Rate{{Category: "x", From: day(2026, 2, 30)}}},
		// a Bp that is none
		one(-1, 100), one(100001, 100), one(far, 0), one(most, 0), sums([]api.Part{x, part("y", 100001, 0)}), {Next: 1, Table: []api.Rate{{Category: "x", From: d, Bp: 100001}}}, {Next: 1, Table: []api.Rate{{Category: "x", From: d, Bp: -1}}},
		// a tax that passes beyond an int
		one(20000, 1<<62), one(10000, far), one(100000, most), one(100000, far), one(10001, most), one(100000, 1<<60), sums([]api.Part{x, part("y", 20000, -1<<62-1)}),
		// sums that do
		one(10000, 1<<62), one(1, most), one(1900, most-5), one(10000, -1<<62-1),
		sums([]api.Part{part("x", 0, most), part("y", 0, 1)}), sums([]api.Part{part("x", 0, -most), part("y", 0, -2)}), sums([]api.Part{part("x", 0, most), part("y", 0, most), part("z", 0, 2)}), sums([]api.Part{part("v", 0, -1<<62), part("x", 0, -1<<62), part("y", 0, -1<<62), part("z", 0, -1<<62)}),
		sums([]api.Part{part("x", 10000, 1<<62), part("y", 10000, 1<<62), part("z", 0, -1<<62)}), sums([]api.Part{part("x", 10000, 1<<62), part("y", 10000, 1<<62), part("z", 0, most), part("zz", 0, 1)}),
		// an amount that can't be taken off 0
		one(0, far), sums([]api.Part{part("x", 0, far), part("y", 0, 9)}),
		// more invoices of a series than its limit
		limited(1, 2), limited(2, 3), limited(5, 9), limited(0, 0), limited(cap40+1, 1), limited(far, 1),
		// accounts that pass beyond an int, though they'd come back
		sums([]api.Part{part("x", 0, most)}, []api.Part{part("y", 0, 1)}), sums([]api.Part{part("x", 0, most)}, []api.Part{part("y", 0, 1)}, []api.Part{part("z", 0, -5)}), sums([]api.Part{part("x", 0, -most)}, []api.Part{part("x", 0, -2)}),
		sums([]api.Part{part("x", 0, most), part("y", 0, -most)}, []api.Part{part("x", 0, 2), part("y", 0, -1)}), sums([]api.Part{part("x", 10000, 1<<61), part("y", 0, -1<<62)}, []api.Part{part("x", 30000, 1<<61), part("y", 0, far/2), part("z", 0, far/2)}),
		// no part
		sums(nil), sums([]api.Part{x}, nil), sums([]api.Part{x}, []api.Part{}),
		// parts that don't rise
		sums([]api.Part{part("y", 0, 1), part("x", 0, 1)}), sums([]api.Part{x, x}), sums([]api.Part{part("\u00fc", 0, 1), part("u", 0, 1)}),
	} {
		b := written(s)
		if got, e := image.Get(b); e != api.ErrForm || !zero(got) {
			t.Errorf("%d: %v, %v of %v", i, got, e, s)
		}
		held(t, b)
	}
}

// limited is a state, as it is written, of n invoices in a series of that limit.
func limited(limit, n int) api.State {
	s := bills(slices.Repeat([]api.Posted{bill("a", today(), part("x", 0, 1))}, n)...)
	s.Series[0].Limit = limit
	return s
}

// TestWhatJustCan: each of these lies one step beside what can't be.
func TestWhatJustCan(t *testing.T) {
	x, off := part("x", 1900, 100), part("x", 1900, -100)
	d := today()
	for _, s := range []api.State{
		bills(bill("a", d, x), back("a", d, ref("a", 1), off)), bills(bill("a", d, x), back("b", day(2026, 11, 16), ref("a", 1), off)), bills(bill("b", d, x), bill("a", d, x), back("a", d, ref("b", 1), off), back("b", d, ref("a", 1), off)),
		bills(bill("a", day(9999, 12, 31), x), bill("a", day(1, 1, 1), x)), bills(bill("a", day(2024, 2, 29), part("x", 0, 0))),
		sums([]api.Part{part("x", 100000, 7)}), sums([]api.Part{part("x", 0, most)}), sums([]api.Part{part("x", 0, -most)}), sums([]api.Part{part("x", 10000, 1<<62-1)}), sums([]api.Part{part("x", 10000, -1<<62)}), sums([]api.Part{part("x", 0, far/2), part("y", 0, far/2)}),
		limited(1, 1), limited(2, 2), limited(40, 40), limited(1, 0), limited(cap40, 40),
		sums([]api.Part{part("x", 0, most)}, []api.Part{part("y", 0, -5)}, []api.Part{part("z", 0, 1)}),
		sums([]api.Part{part("u", 0, 1), part("\u00fc", 0, 1)}),
	} {
		goes(t, right(t, s))
	}
}

// TestReckoned: what isn't written, told by hand.
func TestReckoned(t *testing.T) {
	d := today()
	b := written(api.State{
		Series: []api.Series{{Name: "a", Limit: 4}, {Name: "b", Limit: 2}, {Name: "c", Limit: 1}},
		Posted: []api.Posted{
			bill("b", d, part("x", 100, 50)), bill("a", d, part("x", 100, 49)), bill("a", d, part("x", 100, -50), part("y", 99, -51)),
			back("a", d, ref("b", 1), part("x", 100, -50)), bill("b", d, part("y", 100000, 3)), back("a", d, ref("a", 2), part("x", 100, 50), part("y", 99, 51)),
		},
		Next: 1,
	})
	s, e := image.Get(b)
	if e != api.OK {
		t.Fatal(e)
	}
	if want := []api.Series{{Name: "a", Next: 5, Limit: 4}, {Name: "b", Next: 3, Limit: 2}, {Name: "c", Next: 1, Limit: 1}}; !slices.Equal(s.Series, want) {
		t.Error(s.Series)
	}
	if want := []api.Balance{{Account: "net/x", Amount: -49}, {Account: "net/y", Amount: -3}, {Account: "owed", Amount: 82}, {Account: "tax/x"}, {Account: "tax/y", Amount: -30}}; !slices.Equal(s.Book, want) {
		t.Error(s.Book)
	}
	for i, want := range []struct {
		n, net, tax, gross int
		back               bool
		taxes              []int
	}{
		{1, 50, 1, 51, true, []int{1}}, {1, 49, 0, 49, false, []int{0}}, {2, -101, -2, -103, true, []int{-1, -1}},
		{3, -50, -1, -51, false, []int{-1}}, {2, 3, 30, 33, false, []int{30}}, {4, 101, 2, 103, false, []int{1, 1}},
	} {
		p := s.Posted[i]
		var taxes []int
		for _, x := range p.Total.Parts {
			taxes = append(taxes, x.Tax)
		}
		if p.Number != want.n || p.Total.Net != want.net || p.Total.Tax != want.tax || p.Total.Gross != want.gross || p.Back != want.back || !slices.Equal(taxes, want.taxes) {
			t.Errorf("%d: %v, not %v", i, p, want)
		}
	}
}

// TestSumsComeBack: sums that pass beyond an int on their way, and come back, are what they come to.
func TestSumsComeBack(t *testing.T) {
	for i, c := range []struct {
		parts           []api.Part
		net, tax, gross int
	}{
		{[]api.Part{part("x", 0, most), part("y", 0, most), part("z", 0, -most)}, most, 0, most},
		{[]api.Part{part("x", 0, -most), part("y", 0, -most), part("z", 0, most)}, -most, 0, -most},
		{[]api.Part{part("x", 10000, 1<<61), part("y", 30000, 1<<61), part("z", 20000, -1<<61)}, 1 << 61, 1 << 62, 3 << 61},
		{[]api.Part{part("x", 20000, 1<<61), part("y", 20000, 1<<61), part("z", 10000, -1<<62), part("zz", 1, -10000)}, -10000, 1<<62 - 1, 1<<62 - 10001},
		{[]api.Part{part("a", 0, 1<<62), part("b", 0, 1<<62), part("std", 0, -1<<62)}, 1 << 62, 0, 1 << 62},
	} {
		s, e := image.Get(written(sums(c.parts)))
		if e != api.OK {
			t.Errorf("%d: %v", i, e)
			continue
		}
		if got := s.Posted[0].Total; got.Net != c.net || got.Tax != c.tax || got.Gross != c.gross {
			t.Errorf("%d: %v", i, got)
		}
		goes(t, s)
	}
}

// TestDrawnBytes hands in bytes that are drawn, and images with some tokens that are drawn.
func TestDrawnBytes(t *testing.T) {
	draw := rand.New(rand.NewSource(151))
	for range 30000 {
		b := make([]byte, draw.Intn(40))
		for i := range b {
			b[i] = pick(draw, 0, 0, 0, 2, 2, 4, 'a', 'b', byte(draw.Intn(256)))
		}
		held(t, b)
	}
}

// TestDrawnTokens changes one to three tokens of drawn states, and holds what comes of them against the model.
func TestDrawnTokens(t *testing.T) {
	draw := rand.New(rand.NewSource(152))
	met := map[api.Errno]int{}
	for range 400 {
		l := tokens(drawnState(draw))
		for range 40 {
			c := slices.Clone(l)
			for range 1 + draw.Intn(3) {
				x := &c[draw.Intn(len(c))]
				x.s = pick(draw, x.s, "a", "b", "c", "", "a\xff", strings.Repeat("c", 24+draw.Intn(50)))
				x.n = pick(draw, x.n+1, x.n-1, 0, 1, 2, 700, 1900, -x.n, far, most, draw.Intn(100))
			}
			met[held(t, laid(c...))]++
		}
	}
	for _, e := range []api.Errno{api.OK, api.ErrLong, api.ErrShort, api.ErrForm, api.ErrTail} {
		if met[e] < 10 {
			t.Error("seldom:", e, met)
		}
	}
}

// TestLongBytesEnd: what is far longer than any image is answered at once.
func TestLongBytesEnd(t *testing.T) {
	hand, b := byHand()
	for _, c := range []struct {
		b    []byte
		want api.Errno
	}{
		{make([]byte, 1<<22), api.ErrTail}, {bytes.Repeat([]byte{0x80}, 1<<22), api.ErrForm}, {bytes.Repeat([]byte{0xff}, 1<<22), api.ErrForm}, {bytes.Repeat([]byte{48}, 1<<22), api.ErrLong},
		{append(slices.Clip(b), make([]byte, 1<<22)...), api.ErrTail}, {slices.Concat(b[:1], make([]byte, 1<<22)), api.ErrTail},
	} {
		if s, e := image.Get(c.b); e != c.want || !zero(s) {
			t.Error(fmt.Sprint(c.b[:9]), s, e)
		}
	}
	for range 300 {
		goes(t, hand)
	}
}
