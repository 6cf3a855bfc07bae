package image_test

import (
	"bytes"
	"fmt"
	"reflect"
	"slices"
	"strings"
	"testing"

	"impost/api"
	"impost/billing"
	"impost/image"
)

// P15.1

func TestRuns(t *testing.T) {
	b := image.Put(billing.New())
	if !bytes.Equal(b, []byte{0, 0, 0, 0, 2}) {
		t.Errorf("% x", b)
	}
	// lists without any are nil, as in New
	if s, e := image.Get(b); e != api.OK || !reflect.DeepEqual(s, billing.New()) {
		t.Error(s, e)
	}
	refused(t, append(b, 0), api.ErrTail)
	refused(t, nil, api.ErrShort)
	refused(t, []byte{0, 0, 0, 0, 0}, api.ErrForm)
}

func TestPutByHand(t *testing.T) {
	s, b := byHand()
	if got := image.Put(s); !bytes.Equal(got, b) {
		t.Errorf("% x, not\n% x", got, b)
	}
}

// TestEachFieldIsWritten changes each field that is written, by itself, in a state where it may be another one, and looks at the bytes that change with it.
func TestEachFieldIsWritten(t *testing.T) {
	_, hand := byHand()
	for i, c := range []struct {
		turn func(s *api.State)
		at   int
		was  []byte
		is   []byte
	}{
		{func(s *api.State) { s.Table[0].Category = "fooc" }, 5, []byte("d"), []byte("c")},
		{func(s *api.State) { s.Table[0].From.Y = 2001 }, 6, []byte{0xa0, 0x1f}, []byte{0xa2, 0x1f}},
		{func(s *api.State) { s.Table[0].From.M = 3 }, 8, []byte{2}, []byte{6}},
		{func(s *api.State) { s.Table[0].From.D = 31 }, 9, []byte{4}, []byte{62}},
		{func(s *api.State) { s.Table[0].Bp = 0 }, 10, []byte{0xf8, 0x0a}, []byte{0}},
		{func(s *api.State) { s.Table = s.Table[:0] }, 0, []byte("\x04\x08food\xa0\x1f\x02\x04\xf8\x0a\x06std\xd4\x1f\x16\x1e\xd8\x1d"), []byte{0}},
		{func(s *api.State) { s.Series[0].Limit = 1 }, 25, []byte{18}, []byte{2}},
		{func(s *api.State) { s.Series[0].Shut = true }, 26, []byte{0}, []byte{2}},
		{func(s *api.State) { s.Series[1].Shut = false }, 35, []byte{2}, []byte{0}},
		{func(s *api.State) { s.Series[1].Limit = 2 }, 29, []byte{0x80, 0x80, 0x80, 0x80, 0x80, 0x40}, []byte{4}},
		{func(s *api.State) { s.Posted[0].Day.Y = 1 }, 39, []byte{0xd4, 0x1f}, []byte{2}},
		{func(s *api.State) { s.Posted[0].Day.M = 1 }, 41, []byte{22}, []byte{2}},
		{func(s *api.State) { s.Posted[0].Day.D = 16 }, 42, []byte{30}, []byte{32}},
		{func(s *api.State) { s.Posted[1].Series = "a" }, 64, []byte("b"), []byte("a")},
		{func(s *api.State) { s.Posted[2].Of = api.Ref{} }, 85, []byte("\x02a\x02"), []byte{0, 0}},
		{func(s *api.State) { s.Posted[1].Total.Parts[0].Category = "s" }, 72, []byte("\x06std"), []byte("\x02s")},
		{func(s *api.State) { s.Posted[1].Total.Parts[0].Bp = 1 }, 76, []byte{0xd8, 0x1d}, []byte{2}},
		{func(s *api.State) { s.Posted[1].Total.Parts[0].Net = 64 }, 78, []byte{0x63}, []byte{0x80, 0x01}},
		{func(s *api.State) { s.Posted = s.Posted[:2] }, 36, hand[36:106], slices.Concat([]byte{4}, hand[37:79])},
		{func(s *api.State) { s.Sessions[1].Id = 2 }, 112, []byte{6}, []byte{4}},
		{func(s *api.State) { s.Sessions[1].Last = 1 }, 113, []byte{14}, []byte{2}},
		{func(s *api.State) { s.Sessions[1].Reply.Why = -1 }, 114, []byte{0}, []byte{1}},
		{func(s *api.State) { s.Sessions[1].Reply.Number = -3 }, 115, []byte{4}, []byte{5}},
		{func(s *api.State) { s.Sessions[1].Reply.Gross = 64 }, 116, []byte{0x77}, []byte{0x80, 0x01}},
		{func(s *api.State) { s.Sessions = s.Sessions[:1] }, 106, []byte("\x06\x02\x00\x00\x00\x00\x06\x0e\x00\x04\x77\x08\x80\x80\x80\x80\x80\x40\x1c\x00\x00"), []byte{2, 2, 0, 0, 0, 0}},
		{func(s *api.State) { s.Next = 5 }, 127, []byte{12}, []byte{10}},
	} {
		s, b := byHand()
		if !bytes.Equal(b[c.at:c.at+len(c.was)], c.was) {
			t.Fatalf("%d: % x at %d", i, b[c.at:], c.at)
		}
		c.turn(&s)
		s = right(t, s)
		want := slices.Concat(b[:c.at], c.is, b[c.at+len(c.was):])
		if got := goes(t, s); !bytes.Equal(got, want) {
			t.Errorf("%d: % x, not\n% x", i, got, want)
		}
	}
}

// Lists of n, each as it is written.

func rates(n int) []api.Rate {
	var l []api.Rate
	for i := range n {
		l = append(l, api.Rate{Category: "x" + strings.Repeat("y", i%24), From: day(2000+i, 1+i%12, 1+i), Bp: i * 4347})
	}
	slices.SortFunc(l, func(a, b api.Rate) int { return len(a.Category) - len(b.Category) })
	return l
}

func lines(n int) []api.Part {
	var l []api.Part
	for i := range n {
		l = append(l, part(fmt.Sprintf("c%02d", i), i*1000, 100*i-550))
	}
	return l
}

func someSeries(n int) []api.Series {
	var l []api.Series
	for i := range n {
		l = append(l, api.Series{Name: fmt.Sprintf("s%d", i), Limit: maxPosted + 1 + i, Shut: i%3 == 1})
	}
	return l
}

func clients(n int) []api.Session {
	var l []api.Session
	for i := range n {
		l = append(l, api.Session{Id: 2*i + 1, Last: i, Reply: api.Reply{Why: api.Errno(i), Number: 3 * i, Gross: -i}})
	}
	return l
}

// wide is a state, as it is written, of so many rates, series, invoices (each of parts) and sessions.
func wide(r, s, p, parts, c int) api.State {
	out := api.State{Table: rates(r), Series: someSeries(s), Sessions: clients(c), Next: 99}
	for i := range p {
		out.Posted = append(out.Posted, bill(fmt.Sprintf("s%d", i%max(s, 1)), today(), lines(parts)...))
	}
	return out
}

// TestLists: each list with none, one, as many as its limit, and one more.
func TestLists(t *testing.T) {
	for _, full := range []struct {
		name string
		most int
		of   func(n int) api.State
		none api.Errno
	}{
		{"rates", maxRates, func(n int) api.State { return wide(n, 2, 3, 2, 2) }, api.OK},
		{"series", maxSeries, func(n int) api.State { return wide(2, n, min(3*n, 11), 2, 2) }, api.OK},
		{"invoices", maxPosted, func(n int) api.State { return wide(2, 3, n, 2, 2) }, api.OK},
		{"parts", maxParts, func(n int) api.State { return wide(2, 2, 3, n, 2) }, api.ErrForm},
		{"sessions", maxSessions, func(n int) api.State { return wide(2, 2, 3, 2, n) }, api.OK},
	} {
		for _, n := range []int{0, 1, 2, full.most - 1, full.most} {
			if n == 0 && full.none != api.OK {
				continue
			}
			goes(t, right(t, full.of(n)))
		}
		if full.none != api.OK {
			none(t, full.name, full.of(0))
			refused(t, written(full.of(0)), full.none)
		}
		for _, n := range []int{full.most + 1, full.most + 2, 2 * full.most, 100} {
			none(t, full.name, full.of(n))
			refused(t, written(full.of(n)), api.ErrLong)
		}
	}
	goes(t, right(t, wide(maxRates, maxSeries, maxPosted, maxParts, maxSessions)))
	goes(t, right(t, wide(0, 0, 0, 0, 0)))
	goes(t, right(t, wide(1, 0, 0, 0, 0)))
	goes(t, right(t, wide(0, 1, 0, 0, 0)))
	goes(t, right(t, wide(0, 1, 1, 1, 0)))
	goes(t, right(t, wide(0, 0, 0, 0, 1)))
}

// none asks that there are no bytes of s, with what is reckoned of it.
func none(t *testing.T, what string, s api.State) {
	t.Helper()
	s, _ = filled(s)
	if billing.Right(s) {
		t.Fatalf("%s: right: %v", what, s)
	}
	if b := image.Put(s); len(b) > 0 {
		t.Errorf("%s: % x of %v", what, b, s)
	}
}

// TestTheGreatestImage: all that a state can hold, in its longest form, is written and read back, and a snapshot has room for it.
func TestTheGreatestImage(t *testing.T) {
	s := wide(maxRates, maxSeries, maxPosted, maxParts, maxSessions)
	for i := range s.Table {
		s.Table[i].Category = strings.Repeat("z", 22) + fmt.Sprintf("%02d", i)
		s.Table[i].From, s.Table[i].Bp = day(9999, 12, 31), 100000
	}
	long := func(i int) string { return strings.Repeat("z", 23) + fmt.Sprint(i) }
	for i := range s.Series {
		s.Series[i].Name, s.Series[i].Limit = long(i), cap40
	}
	for i := range s.Posted {
		p := &s.Posted[i]
		p.Series, p.Day = long(i%maxSeries), day(9999, 12, 31)
		for k := range p.Total.Parts {
			n := 1 << 62
			if (i+k)%2 == 0 {
				n = -n
			}
			p.Total.Parts[k] = part(strings.Repeat("z", 22)+fmt.Sprintf("%02d", k), 9999, n-1000*k+i/8)
		}
	}
	for i := range s.Sessions {
		s.Sessions[i] = api.Session{Id: cap40 - 9 + i, Last: cap40, Reply: api.Reply{Why: far, Number: far, Gross: most}}
	}
	s.Next = cap40
	b := goes(t, right(t, s))
	if len(b) > api.MaxImage || len(b) < 1<<14 {
		t.Error(len(b))
	}
}

func TestNext(t *testing.T) {
	for _, n := range []int{1, 2, 63, 64, 8191, 8192, cap40 - 1, cap40} {
		goes(t, api.State{Next: n})
	}
	for _, n := range []int{far, -cap40, -1, 0, cap40 + 1, most} {
		none(t, "Next", api.State{Next: n})
		refused(t, written(api.State{Next: n}), api.ErrForm)
	}
	goes(t, api.State{Next: 2, Sessions: []api.Session{{Id: 1}}})
	for _, n := range []int{0, 1, cap40 + 1} {
		none(t, "Next", api.State{Next: n, Sessions: []api.Session{{Id: 1}}})
		refused(t, written(api.State{Next: n, Sessions: []api.Session{{Id: 1}}}), api.ErrForm)
	}
}

// unlike is a state that isn't right; told: what is wrong is written.
type unlike struct {
	clause string
	told   bool
	s      api.State
}

// edited is the state byHand with something done to it.
func edited(turn func(s *api.State)) api.State {
	s, _ := byHand()
	turn(&s)
	return s
}

// notRight are states that aren't right, by the clauses of chapter 14 (lists that are too long stand in TestLists). What was done to one that is told is reckoned on, so that nothing else is wrong of it.
func notRight() []unlike {
	out := append(notRightLists(), notRightInvoices()...)
	for i, x := range out {
		if x.told {
			out[i].s, _ = filled(x.s)
		}
	}
	return append(out, notReckoned()...)
}

func notRightLists() []unlike {
	var out []unlike
	wrong := func(clause string, turn func(s *api.State)) {
		out = append(out, unlike{clause, true, edited(turn)})
	}
	wrong("table", func(s *api.State) { slices.Reverse(s.Table) })
	wrong("table", func(s *api.State) { s.Table[1] = s.Table[0] })
	wrong("table", func(s *api.State) { s.Table[0].Bp = -1 })
	wrong("table", func(s *api.State) { s.Table[1].Bp = 100001 })
	wrong("table", func(s *api.State) { s.Table[1].From = day(2026, 11, 31) })
	for _, name := range []string{"", "7", "t t", "t\xff", strings.Repeat("t", 25), strings.Repeat("t", 64)} {
		wrong("table", func(s *api.State) { s.Table[1].Category = name })
		wrong("name", func(s *api.State) { s.Posted[1].Total.Parts[0].Category = name })
	}
	for _, name := range []string{"c c", "c\xff", strings.Repeat("c", 25), strings.Repeat("c", 64)} {
		wrong("series", func(s *api.State) { s.Series = append(s.Series, api.Series{Name: name, Limit: 1}) })
	}
	wrong("series", func(s *api.State) { slices.Reverse(s.Series) })
	wrong("series", func(s *api.State) { s.Series = append(s.Series, api.Series{Name: "b", Limit: 2}) })
	wrong("series", func(s *api.State) { s.Series = append(s.Series, api.Series{Name: "c"}) })
	wrong("series", func(s *api.State) { s.Series[1].Limit = cap40 + 1 })
	wrong("series", func(s *api.State) { s.Series[1].Limit = 1 })
	wrong("sessions", func(s *api.State) { slices.Reverse(s.Sessions) })
	wrong("sessions", func(s *api.State) { s.Sessions[1].Id = 1 })
	wrong("sessions", func(s *api.State) { s.Sessions[0].Id = 0 })
	wrong("sessions", func(s *api.State) { s.Sessions[1].Last = -1 })
	wrong("sessions", func(s *api.State) { s.Sessions[1].Last = cap40 + 1 })
	wrong("sessions", func(s *api.State) { s.Sessions[0].Reply.Why = api.ErrArg })
	wrong("sessions", func(s *api.State) { s.Sessions[0].Reply.Number = 1 })
	wrong("sessions", func(s *api.State) { s.Sessions[0].Reply.Gross = 1 })
	wrong("ids", func(s *api.State) { s.Next = 4 })
	wrong("ids", func(s *api.State) { s.Sessions[2].Id = 6 })
	wrong("next", func(s *api.State) { s.Next = cap40 + 1 })
	wrong("next", func(s *api.State) { s.Next, s.Sessions = 0, nil })
	return out
}

func notRightInvoices() []unlike {
	var out []unlike
	wrong := func(clause string, turn func(s *api.State)) {
		out = append(out, unlike{clause, true, edited(turn)})
	}
	wrong("home", func(s *api.State) { s.Posted[1].Series = "c" })
	wrong("home", func(s *api.State) { s.Posted[1].Series = "" })
	wrong("home", func(s *api.State) { s.Series = s.Series[:1] })
	for _, d := range []api.Date{{}, day(0, 1, 1), day(10000, 1, 1), day(2025, 0, 1), day(2025, 13, 1), day(2025, 2, 29), day(2025, 4, 0), day(far, most, 1)} {
		wrong("day", func(s *api.State) { s.Posted[1].Day = d })
	}
	wrong("parts", func(s *api.State) { s.Posted[1].Total.Parts = nil })
	wrong("rise", func(s *api.State) { s.Posted[1].Total.Parts = []api.Part{part("b", 0, 1), part("a", 0, 1)} })
	wrong("rise", func(s *api.State) { s.Posted[1].Total.Parts = []api.Part{part("b", 0, 1), part("b", 0, 1)} })
	for _, bp := range []int{far, -1, 100001, most} {
		wrong("bp", func(s *api.State) { s.Posted[1].Total.Parts[0] = part("std", bp, 0) })
	}
	wrong("tax", func(s *api.State) { s.Posted[1].Total.Parts[0] = part("std", 30000, 1<<62) })
	wrong("net", func(s *api.State) { s.Posted[1].Total.Parts = []api.Part{part("x", 0, most), part("y", 0, 1)} })
	wrong("taxes", func(s *api.State) {
		s.Posted[1].Total.Parts = []api.Part{part("x", 10000, 1<<62), part("y", 10000, 1<<62), part("z", 0, -1<<62)}
	})
	wrong("gross", func(s *api.State) { s.Posted[1].Total.Parts[0] = part("std", 10000, 1<<62) })
	wrong("of", func(s *api.State) { s.Posted[2].Of = ref("b", 2) })
	wrong("of", func(s *api.State) {
		s.Posted[1].Total.Parts, s.Posted[2].Total.Parts = []api.Part{part("x", 0, 7)}, []api.Part{part("x", 0, -7)}
		s.Posted[1].Of, s.Posted[2].Of = ref("b", 2), api.Ref{}
	})
	wrong("of a credit", func(s *api.State) {
		s.Posted = append(s.Posted, s.Posted[0])
		s.Posted[3].Of = ref("b", 2)
		s.Posted[3].Day = day(2027, 1, 1)
	})
	wrong("of", func(s *api.State) { s.Posted[2].Of = ref("a", 2) })
	wrong("of", func(s *api.State) { s.Posted[2].Of = ref("", 1) })
	wrong("of a later day", func(s *api.State) { s.Posted[2].Day = day(2026, 11, 14) })
	wrong("of another total", func(s *api.State) { s.Posted[2].Total.Parts[0].Net++ })
	wrong("of another total", func(s *api.State) { s.Posted[2].Total.Parts[0].Bp = 701 })
	wrong("of another total", func(s *api.State) { s.Posted[2].Total.Parts[0].Category = "fooc" })
	wrong("of another total", func(s *api.State) { s.Posted[2].Total.Parts = s.Posted[2].Total.Parts[:1] })
	wrong("back", func(s *api.State) { s.Posted = append(s.Posted, s.Posted[2]) })
	return out
}

// notReckoned are wrong in what isn't written alone.
func notReckoned() []unlike {
	var out []unlike
	wrong := func(clause string, turn func(s *api.State)) {
		out = append(out, unlike{clause, false, edited(turn)})
	}
	wrong("numbers", func(s *api.State) { s.Posted[1].Number, s.Posted[2].Number = 2, 1 })
	wrong("numbers", func(s *api.State) { s.Posted[1].Number = 0 })
	wrong("numbers", func(s *api.State) { s.Posted[2].Number = 3 })
	wrong("numbers", func(s *api.State) { s.Series[0].Next = 1 })
	wrong("numbers", func(s *api.State) { s.Series[0].Next = 3 })
	// amounts that fit each other and the book, but for one
	amounts := func(clause string, part, net, tax, gross int) {
		wrong(clause, func(s *api.State) {
			t := &s.Posted[1].Total
			t.Parts[0].Tax, t.Net, t.Tax, t.Gross = t.Parts[0].Tax+part, t.Net+net, t.Tax+tax, t.Gross+gross
			s.Book, _ = ledger(s.Posted)
		})
	}
	for _, n := range []int{1, -1, 10} {
		amounts("tax", n, 0, n, n)
		amounts("net", 0, n, 0, n)
		amounts("taxes", 0, 0, n, n)
		amounts("gross", 0, 0, 0, n)
	}
	wrong("back", func(s *api.State) { s.Posted[0].Back = false })
	wrong("back", func(s *api.State) { s.Posted[1].Back = true })
	wrong("back", func(s *api.State) { s.Posted[2].Back = true })
	wrong("book", func(s *api.State) { s.Book = nil })
	wrong("book", func(s *api.State) { s.Book = s.Book[1:] })
	wrong("book", func(s *api.State) { slices.Reverse(s.Book) })
	wrong("book", func(s *api.State) { s.Book[2].Amount++ })
	wrong("book", func(s *api.State) { s.Book = append(s.Book, api.Balance{Account: "zz"}) })
	wrong("book", func(s *api.State) { *s = api.State{Next: 1, Book: []api.Balance{{Account: "owed"}}} })
	return out
}

// TestPutOfWhatIsNotRight: there are no bytes of it. What is wrong and written Get refuses; what isn't written can't be wrong of what Get takes.
func TestPutOfWhatIsNotRight(t *testing.T) {
	for _, x := range notRight() {
		if billing.Right(x.s) {
			t.Fatalf("%s: right: %v", x.clause, x.s)
		}
		if b := image.Put(x.s); len(b) > 0 {
			t.Errorf("%s: % x", x.clause, b)
		}
		if x.told {
			refused(t, written(x.s), api.ErrForm)
			continue
		}
		want, _ := filled(x.s)
		if got, e := image.Get(written(x.s)); e != api.OK || !same(got, want) {
			t.Errorf("%s: %v, %v, not %v", x.clause, got, e, want)
		}
	}
	if b := image.Put(api.State{}); len(b) > 0 {
		t.Errorf("% x", b)
	}
}
