package billing

import (
	"math/rand"
	"slices"
	"strings"
	"testing"

	"impost/api"
)

// P14.4

// part is one whose Tax is what its Net and Bp come to.
func part(category string, bp, net int) api.Part {
	return api.Part{Category: category, Bp: bp, Net: net, Tax: int(share(net, bp).Int64())}
}

// total is what the parts come to; what goes beyond an int wraps.
func total(parts ...api.Part) api.Total {
	t := api.Total{Parts: parts}
	for _, p := range parts {
		t.Net += p.Net
		t.Tax += p.Tax
	}
	t.Gross = t.Net + t.Tax
	return t
}

// rebooked gives s the book of its invoices, as far as there is one.
func rebooked(s *api.State) {
	s.Book, _ = ledger(s.Posted)
}

// plain is a right state of n invoices in the series a, the i-th one of i + 1 at no rate.
func plain(n int) api.State {
	s := api.State{Series: []api.Series{{Name: "a", Next: n + 1, Limit: 99}}, Next: 1}
	for i := range n {
		s.Posted = append(s.Posted, api.Posted{Ref: ref("a", i+1), Day: today(), Total: total(part("x", 0, i+1))})
	}
	rebooked(&s)
	return s
}

// of is a right state of invoices of these totals in the series a.
func of(totals ...api.Total) api.State {
	s := plain(len(totals))
	for i, t := range totals {
		s.Posted[i].Total = t
	}
	rebooked(&s)
	return s
}

// backed is plain(3) with the last one as the credit of the first.
func backed() api.State {
	s := plain(3)
	s.Posted[0].Back = true
	s.Posted[2].Of = ref("a", 1)
	s.Posted[2].Total = total(part("x", 0, -1))
	rebooked(&s)
	return s
}

// changed is s with something done to it, and its book reckoned anew.
func changed(s api.State, turn func(s *api.State)) api.State {
	turn(&s)
	rebooked(&s)
	return s
}

// edit is some() with something done to it.
func edit(turn func(s *api.State)) api.State {
	s := some()
	turn(&s)
	return s
}

// wrong is a state that breaks one clause alone.
type wrong struct {
	clause string
	s      api.State
}

// wrongLists break what the lists have to be each for itself.
func wrongLists() []wrong {
	sessions := func(next int, l ...api.Session) api.State { return api.State{Next: next, Sessions: l} }
	return []wrong{
		{"table", edit(func(s *api.State) { s.Table[0], s.Table[1] = s.Table[1], s.Table[0] })},
		{"table", edit(func(s *api.State) { s.Table[2] = s.Table[1] })},
		{"table", edit(func(s *api.State) { s.Table[1].Bp = -1 })},
		{"table", edit(func(s *api.State) { s.Table[2].Bp = 100001 })},
		{"table", edit(func(s *api.State) { s.Table[2].Category = "std\xff" })},
		{"table", edit(func(s *api.State) { s.Table[0].From = api.Date{} })},
		{"table", edit(func(s *api.State) {
			for i := range 22 {
				s.Table = append(s.Table, api.Rate{Category: "z", From: day(2000+i, 1, 1)})
			}
		})},
		{"series", edit(func(s *api.State) { s.Series[0], s.Series[1] = s.Series[1], s.Series[0] })},
		{"series", edit(func(s *api.State) { s.Series[1].Limit = 0 })},
		{"series", edit(func(s *api.State) { s.Series[3].Limit = cap40 + 1 })},
		{"series", edit(func(s *api.State) { s.Series[3].Name = "7" })},
		{"series", edit(func(s *api.State) { s.Series[3].Name = "z\xff" })},
		{"series", edit(func(s *api.State) { s.Series = append(s.Series, s.Series[3]) })},
		{"series", edit(func(s *api.State) {
			for _, c := range "efghi" {
				s.Series = append(s.Series, api.Series{Name: string(c), Next: 1, Limit: 1})
			}
		})},
		{"sessions", edit(func(s *api.State) { s.Sessions[0], s.Sessions[1] = s.Sessions[1], s.Sessions[0] })},
		{"sessions", edit(func(s *api.State) { s.Sessions[0].Id = 2 })},
		{"sessions", edit(func(s *api.State) { s.Sessions[0].Id = 0 })},
		{"sessions", edit(func(s *api.State) { s.Sessions[0].Id = far })},
		{"sessions", edit(func(s *api.State) { s.Sessions[1].Last = -1 })},
		{"sessions", edit(func(s *api.State) { s.Sessions[1].Last = cap40 + 1 })},
		{"sessions", edit(func(s *api.State) { s.Sessions[0].Reply.Gross = 1 })},
		{"sessions", sessions(10, api.Session{Id: 1}, api.Session{Id: 2}, api.Session{Id: 3}, api.Session{Id: 4}, api.Session{Id: 5}, api.Session{Id: 6}, api.Session{Id: 7}, api.Session{Id: 8}, api.Session{Id: 9})},
		{"ids", sessions(1, api.Session{Id: 1})},
		{"ids", edit(func(s *api.State) { s.Next = 5 })},
		{"ids", edit(func(s *api.State) { s.Sessions[3].Id = 7 })},
		{"ids", edit(func(s *api.State) { s.Sessions[3].Id = most })},
		{"ids", sessions(cap40, api.Session{Id: 1}, api.Session{Id: cap40})},
		{"next", sessions(0)}, {"next", sessions(-1)}, {"next", sessions(far)}, {"next", sessions(cap40 + 1)}, {"next", sessions(most)},
		{"next", edit(func(s *api.State) { s.Next = cap40 + 1 })},
		{"many", plain(41)}, {"many", plain(70)},
	}
}

// wrongNumbers break what ties invoices to their series, and their days.
func wrongNumbers() []wrong {
	out := []wrong{
		{"home", changed(plain(3), func(s *api.State) { s.Posted[2].Series, s.Series[0].Next = "b", 3 })},
		{"home", changed(plain(1), func(s *api.State) { s.Series = nil })},
		{"home", changed(plain(2), func(s *api.State) { s.Posted[1].Series, s.Series[0].Next = "", 2 })},
		{"home", changed(plain(2), func(s *api.State) { s.Posted[1].Series, s.Series[0].Next = "A", 2 })},
		{"home", changed(plain(2), func(s *api.State) { s.Posted[1].Series, s.Series[0].Next = "a\xff", 2 })},
		{"numbers", changed(plain(2), func(s *api.State) { s.Posted[1].Number = 3 })},
		{"numbers", changed(plain(2), func(s *api.State) { s.Posted[1].Number, s.Series[0].Next = 3, 4 })},
		{"numbers", changed(plain(2), func(s *api.State) { s.Posted[1].Number = 1 })},
		{"numbers", changed(plain(2), func(s *api.State) { s.Posted[0].Number, s.Posted[1].Number = 2, 1 })},
		{"numbers", changed(plain(2), func(s *api.State) { s.Posted[0].Number, s.Posted[1].Number = 2, 3 })},
		{"numbers", changed(plain(2), func(s *api.State) { s.Posted[0].Number, s.Posted[1].Number = 0, 1 })},
		{"numbers", changed(plain(3), func(s *api.State) { s.Posted = s.Posted[1:] })},
		{"numbers", changed(plain(3), func(s *api.State) { s.Posted = s.Posted[:2] })},
		{"numbers", changed(plain(3), func(s *api.State) { s.Posted = nil })},
		{"numbers", changed(plain(3), func(s *api.State) { s.Series[0].Next = 3 })},
		{"numbers", changed(plain(3), func(s *api.State) { s.Series[0].Next = 5 })},
		{"numbers", changed(plain(0), func(s *api.State) { s.Series[0].Next = 2 })},
		{"numbers", edit(func(s *api.State) { s.Series[3].Next = 2 })},
	}
	for _, n := range []int{far, -1, 0, 2, 3, 1<<32 + 1, most} {
		out = append(out, wrong{"numbers", changed(plain(1), func(s *api.State) { s.Posted[0].Number = n })})
	}
	for _, d := range []api.Date{{}, day(2026, 2, 29), day(0, 1, 1), day(10000, 1, 1), day(2026, 13, 1), day(2026, 1, 0), day(far, most, far), day(most, most, most)} {
		for at := range 3 {
			out = append(out, wrong{"day", changed(plain(3), func(s *api.State) { s.Posted[at].Day = d })})
		}
	}
	return out
}

// many12 are n parts of categories that rise.
func many12(n int) []api.Part {
	var l []api.Part
	for i := range n {
		l = append(l, part("p"+string(rune('a'+i)), i, 100*i))
	}
	return l
}

// with1 is the total with something added to its amounts.
func with1(t api.Total, net, tax, gross int) api.Total {
	t.Net, t.Tax, t.Gross = t.Net+net, t.Tax+tax, t.Gross+gross
	return t
}

// taxed is the total of one part with that Tax, whatever its Net and Bp come to.
func taxed(bp, net, tax int) api.Total {
	return total(api.Part{Category: "x", Bp: bp, Net: net, Tax: tax})
}

// wrongTotals break what a total has to be, in invoices whose book fits.
func wrongTotals() []wrong {
	x, y := part("x", 1900, 100), part("y", 700, 50)
	whole := total(x, y)
	out := []wrong{
		{"parts", of(api.Total{})}, {"parts", of(api.Total{Parts: []api.Part{}})}, {"parts", of(total(many12(13)...))}, {"parts", of(total(x), total(), total(y))}, {"parts", of(total(many12(26)...))},
		{"rise", of(total(y, x))}, {"rise", of(total(x, x))}, {"rise", of(total(x, y, part("X", 0, 0)))}, {"rise", of(total(x, y, y))}, {"rise", of(total(part("b", 0, 1), part("a", 0, -1), part("c", 0, 1)))},
		{"bp", of(taxed(-1, 0, 0))}, {"bp", of(taxed(100001, 0, 0))}, {"bp", of(total(part("x", 100001, 100)))}, {"bp", of(taxed(most, 0, 0))}, {"bp", of(taxed(far, 0, 0))}, {"bp", of(total(x, part("z", 100001, 7)))},
		{"tax", of(taxed(1900, 100, 20))}, {"tax", of(taxed(1900, 100, 18))}, {"tax", of(taxed(1900, 100, 0))}, {"tax", of(taxed(1900, 100, -19))}, {"tax", of(taxed(0, 100, 1))}, {"tax", of(taxed(100, 50, 0))}, {"tax", of(taxed(100, -50, 0))}, {"tax", of(taxed(100, -50, -2))}, {"tax", of(taxed(20000, 1<<61+1, 1<<61))},
		{"tax", of(total(x, api.Part{Category: "y", Bp: 700, Net: 50, Tax: 5}))},
		{"net", of(with1(whole, 1, 0, 1))}, {"net", of(with1(whole, -1, 0, -1))}, {"net", of(with1(whole, -50, 0, -50))}, {"net", of(total(y), with1(total(x), 1, 0, 1))},
		{"taxes", of(with1(whole, 0, 1, 1))}, {"taxes", of(with1(whole, 0, -1, -1))}, {"taxes", of(with1(whole, 0, -4, -4))}, {"taxes", of(total(y), with1(total(x), 0, 1, 1))},
		{"gross", of(with1(whole, 0, 0, 1))}, {"gross", of(with1(whole, 0, 0, -1))}, {"gross", of(with1(whole, 0, 0, -whole.Gross))}, {"gross", of(total(y), with1(total(x), 0, 0, -1))},
		// sums that pass beyond an int, and have wrapped
		{"net", of(total(part("x", 0, most), part("y", 0, 1)))}, {"net", of(total(part("x", 0, -most), part("y", 0, -2)))}, {"net", of(total(part("x", 0, most), part("y", 0, most), part("z", 0, 2)))},
		{"taxes", of(total(part("x", 10000, 1<<62), part("y", 10000, 1<<62), part("z", 0, -1<<62)))}, {"taxes", of(total(part("x", 10000, -1<<62), part("y", 10000, -1<<62), part("yy", 10000, -1), part("z", 0, 1<<62)))},
		{"gross", of(total(part("x", 0, most-5), part("y", 10000, 5)))}, {"gross", of(total(part("x", 10000, 1<<62)))}, {"gross", of(total(part("x", 10000, -1<<62-1)))},
	}
	for _, name := range []string{"", "7", "a b", "a/b", "x\xff", "\xc3", strings.Repeat("x", 25)} {
		out = append(out, wrong{"name", of(total(part(name, 1900, 100)))}, wrong{"name", of(total(x, y), total(part(name, 0, 0), part("\u00fc", 0, 5)))})
	}
	return out
}

// wrongCredits break what ties a credit to its invoice, and the book.
func wrongCredits() []wrong {
	mixed := func(t api.Total) api.State { return changed(backed(), func(s *api.State) { s.Posted[2].Total = t }) }
	turned := func(turn func(s *api.State)) api.State { return changed(backed(), turn) }
	out := []wrong{
		{"of", turned(func(s *api.State) { s.Posted[2].Of, s.Posted[0].Back = ref("a", 3), false })},
		{"of", turned(func(s *api.State) { s.Posted[2].Of, s.Posted[0].Back = ref("a", 4), false })},
		{"of", turned(func(s *api.State) { s.Posted[2].Of, s.Posted[0].Back = ref("a", 0), false })},
		{"of", turned(func(s *api.State) { s.Posted[2].Of, s.Posted[0].Back = ref("", 1), false })},
		{"of", turned(func(s *api.State) { s.Posted[2].Of, s.Posted[0].Back = ref("b", 1), false })},
		{"of", changed(plain(1), func(s *api.State) { s.Posted[0].Of = ref("a", 1) })},
		{"of", changed(of(total(part("x", 0, 7)), total(part("x", 0, -7))), func(s *api.State) { s.Posted[0].Of = ref("a", 2) })},
		{"of", changed(of(total(part("x", 0, 0)), total(part("x", 0, 0))), func(s *api.State) { s.Posted[0].Of = ref("a", 2) })},
		{"of a credit", changed(of(total(part("x", 0, 7)), total(part("x", 0, -7)), total(part("x", 0, 7))), func(s *api.State) {
			s.Posted[0].Back, s.Posted[1].Back = true, true
			s.Posted[1].Of, s.Posted[2].Of = ref("a", 1), ref("a", 2)
		})},
		{"of a later day", turned(func(s *api.State) { s.Posted[2].Day = day(2026, 11, 14) })},
		{"of a later day", turned(func(s *api.State) { s.Posted[2].Day = day(1, 1, 1) })},
		{"of a later day", turned(func(s *api.State) { s.Posted[0].Day = day(2026, 11, 16) })},
		{"of another total", mixed(total(part("x", 0, -2)))}, {"of another total", mixed(total(part("x", 0, 1)))}, {"of another total", mixed(total(part("x", 0, 0)))},
		{"of another total", mixed(total(part("y", 0, -1)))}, {"of another total", mixed(total(part("x", 1, -1)))}, {"of another total", mixed(total(part("x", 0, -1), part("y", 0, 0)))}, {"of another total", mixed(total(part("w", 0, 0), part("x", 0, -1)))}, {"of another total", mixed(total(part("x", 10000, -1)))},
		{"of another total", changed(of(total(part("x", 0, far/2), part("y", 0, far/2)), total(part("x", 0, 5))), func(s *api.State) { s.Posted[1].Of, s.Posted[0].Back = ref("a", 1), true })},
		{"back", turned(func(s *api.State) { s.Posted[0].Back = false })},
		{"back", turned(func(s *api.State) { s.Posted[1].Back = true })},
		{"back", turned(func(s *api.State) { s.Posted[2].Back = true })},
		{"back", turned(func(s *api.State) { s.Posted[2].Of = api.Ref{} })},
		{"back", changed(plain(1), func(s *api.State) { s.Posted[0].Back = true })},
		{"back", changed(of(total(part("x", 0, 7)), total(part("x", 0, -7)), total(part("x", 0, -7))), func(s *api.State) {
			s.Posted[0].Back, s.Posted[1].Of, s.Posted[2].Of = true, ref("a", 1), ref("a", 1)
		})},
		{"back", changed(of(total(part("x", 0, 7)), total(part("x", 0, -7)), total(part("x", 0, -7))), func(s *api.State) {
			s.Posted[1].Of, s.Posted[2].Of = ref("a", 1), ref("a", 1)
		})},
	}
	return append(out, wrongBooks()...)
}

// wrongBooks break the last clause.
func wrongBooks() []wrong {
	book := func(turn func(l []api.Balance) []api.Balance) api.State {
		return edit(func(s *api.State) { s.Book = turn(s.Book) })
	}
	out := []wrong{
		{"book", book(func(l []api.Balance) []api.Balance { return nil })},
		{"book", book(func(l []api.Balance) []api.Balance { return l[1:] })},
		{"book", book(func(l []api.Balance) []api.Balance { return l[:4] })},
		{"book", book(func(l []api.Balance) []api.Balance { return slices.Delete(l, 2, 3) })},
		{"book", book(func(l []api.Balance) []api.Balance { return append(l, api.Balance{Account: "zz"}) })},
		{"book", book(func(l []api.Balance) []api.Balance { return append(l, l[4]) })},
		{"book", book(func(l []api.Balance) []api.Balance { return slices.Insert(l, 0, api.Balance{}) })},
		{"book", book(func(l []api.Balance) []api.Balance { l[0], l[1] = l[1], l[0]; return l })},
		{"book", book(func(l []api.Balance) []api.Balance { l[4].Account = "tax/stD"; return l })},
		{"book", api.State{Next: 1, Book: []api.Balance{{Account: "owed"}}}},
		// no book could be right
		{"book", of(total(part("x", 0, most)), total(part("y", 0, 1)))},
		{"book", of(total(part("x", 0, most)), total(part("y", 0, 1)), total(part("z", 0, -1)))},
		{"book", of(total(part("x", 0, -most)), total(part("x", 0, -1)), total(part("x", 0, -1)))},
		{"book", of(total(part("x", 0, far)))},
		{"book", of(total(part("x", 0, far), part("y", 0, 9)))},
	}
	// what can't be entered is not left out
	for _, s := range []api.State{of(total(part("x", 0, far))), of(total(part("x", 0, most)), total(part("x", 0, 1)))} {
		s.Book = nil
		out = append(out, wrong{"book", s})
	}
	for at := range 5 {
		for _, more := range []int{1, -1, far} {
			out = append(out, wrong{"book", book(func(l []api.Balance) []api.Balance { l[at].Amount += more; return l })})
		}
	}
	return out
}

// allWrong are all of them.
func allWrong() []wrong {
	return slices.Concat(wrongLists(), wrongNumbers(), wrongTotals(), wrongCredits())
}

// TestEachClauseAlone: a state that breaks one clause isn't right; the model tells that it breaks no other.
func TestEachClauseAlone(t *testing.T) {
	met := map[string]int{}
	for i, x := range allWrong() {
		met[x.clause]++
		if got := broken(x.s); len(got) != 1 || got[0] != x.clause {
			t.Errorf("%d breaks %v, not %q alone: %v", i, got, x.clause, x.s)
		}
		if Right(x.s) {
			t.Errorf("%d, %s: right", i, x.clause)
		}
		stays(t, x.s, by(0, 0, cJoin()), why(api.ErrArg))
		stays(t, x.s, by(1, 1, cAsk("a")), why(api.ErrArg))
	}
	if len(met) != 23 {
		t.Error(len(met), met)
	}
}

// TestRightAtTheEdges: states that stand just within each clause.
func TestRightAtTheEdges(t *testing.T) {
	longTable := edit(func(s *api.State) {
		for i := range 21 {
			s.Table = append(s.Table, api.Rate{Category: "z", From: day(2000+i, 1, 1), Bp: 100000})
		}
	})
	sessions := api.State{Next: cap40, Sessions: []api.Session{{Id: 1, Last: 1}, {Id: 2}, {Id: 3}, {Id: 4}, {Id: 5}, {Id: 6}, {Id: 7}, {Id: cap40 - 1, Last: cap40, Reply: why(-5)}}}
	least := of(total(part("x", 0, far/2), part("y", 0, far/2)), total(part("x", 0, most)))
	good := []api.State{
		New(), {Next: cap40}, {Next: 1, Table: []api.Rate{}, Series: []api.Series{}, Posted: []api.Posted{}, Book: []api.Balance{}, Sessions: []api.Session{}},
		some(), longTable, sessions, plain(0), plain(1), plain(40), backed(), least,
		of(total(many12(1)...)), of(total(many12(12)...)), of(total(part("x", 100000, 7))), of(total(part("x", 0, 0))),
		of(total(part("x", 0, most)), total(part("x", 0, -most)), total(part("x", 0, -most))),
		of(total(part("x", 0, most)), total(part("y", 0, -1)), total(part("z", 0, 1))),
		// parts that go beyond an int on their way, and come back
		of(total(part("x", 0, most), part("y", 0, most), part("z", 0, -most))),
		of(total(part("x", 0, -most), part("y", 0, -most), part("z", 0, most))),
		of(total(part("x", 10000, 1<<61), part("y", 30000, 1<<61), part("z", 20000, -1<<61))),
		of(total(part(strings.Repeat("x", 24), 1, 1), part("\u00fc", 1, 1))),
		changed(backed(), func(s *api.State) { s.Posted[2].Day = day(2026, 11, 16) }),
		changed(backed(), func(s *api.State) { s.Posted[1].Day = day(1, 1, 1) }),
		changed(backed(), func(s *api.State) { s.Series[0].Shut, s.Series[0].Limit = true, 3 }),
		// a total of nothing is its own other side
		changed(of(total(part("x", 5, 0)), total(part("x", 5, 0))), func(s *api.State) { s.Posted[1].Of, s.Posted[0].Back = ref("a", 1), true }),
	}
	for i, s := range good {
		if got := broken(s); len(got) > 0 {
			t.Errorf("%d breaks %v: %v", i, got, s)
		}
		if !Right(s) {
			t.Errorf("%d: not right: %v", i, s)
		}
	}
}

// TestRightOfOneTurned draws right states, and turns one or two of their numbers, texts and places about.
func TestRightOfOneTurned(t *testing.T) {
	draw := rand.New(rand.NewSource(141))
	right := 0
	for range 6000 {
		s := drawnState(draw)
		for range 1 + draw.Intn(2) {
			turnOne(draw, &s)
		}
		if draw.Intn(2) == 0 {
			rebooked(&s)
		}
		ok := len(broken(s)) == 0
		if Right(s) != ok {
			t.Fatalf("right: %v; %v breaks %v", !ok, s, broken(s))
		}
		if ok {
			right++
		}
	}
	if right < 300 || right > 5000 {
		t.Error("right ones:", right)
	}
}

// turnOne changes one thing of s.
func turnOne(draw *rand.Rand, s *api.State) {
	near := []int{far, -1, 1, 1, -1, 2, most}
	n := near[draw.Intn(len(near))]
	switch draw.Intn(10) {
	case 0:
		s.Next = []int{far, 0, 1, 2, 9, cap40, cap40 + 1, most}[draw.Intn(8)]
	case 1:
		if len(s.Table) > 0 {
			s.Table[draw.Intn(len(s.Table))].Bp += n
		}
	case 2:
		if len(s.Series) > 0 {
			x := &s.Series[draw.Intn(len(s.Series))]
			*[]*int{&x.Next, &x.Limit}[draw.Intn(2)] += n
		}
	case 3:
		if len(s.Sessions) > 0 {
			x := &s.Sessions[draw.Intn(len(s.Sessions))]
			*[]*int{&x.Id, &x.Last, &x.Reply.Gross}[draw.Intn(3)] += n
		}
	case 4:
		if len(s.Book) > 0 {
			s.Book[draw.Intn(len(s.Book))].Amount += n
		}
	case 5:
		if len(s.Posted) > 1 {
			i, j := draw.Intn(len(s.Posted)), draw.Intn(len(s.Posted))
			s.Posted[i], s.Posted[j] = s.Posted[j], s.Posted[i]
		}
	default:
		if len(s.Posted) > 0 {
			turnPosted(draw, s, draw.Intn(len(s.Posted)), n)
		}
	}
}

// turnPosted changes one thing of the invoice at that place.
func turnPosted(draw *rand.Rand, s *api.State, at, n int) {
	p := &s.Posted[at]
	other := s.Posted[draw.Intn(len(s.Posted))]
	switch draw.Intn(9) {
	case 0:
		p.Back = !p.Back
	case 1:
		p.Of = []api.Ref{{}, p.Ref, other.Ref, other.Of}[draw.Intn(4)]
	case 2:
		p.Ref = other.Ref
	case 3:
		p.Number += n
	case 4:
		p.Day.D += n
	case 5:
		*[]*int{&p.Total.Net, &p.Total.Tax, &p.Total.Gross}[draw.Intn(3)] += n
	case 6:
		x := &p.Total.Parts[draw.Intn(len(p.Total.Parts))]
		*[]*int{&x.Net, &x.Tax, &x.Bp}[draw.Intn(3)] += n
	case 7:
		p.Total.Parts[0].Category = []string{"", "a", "zz", "\xff"}[draw.Intn(4)]
	case 8:
		p.Total = other.Total
		p.Total.Parts = slices.Clone(other.Total.Parts)
	}
}

// TestLongStatesAreRefusedAtOnce: lists that are far too long are no reason to go through them again and again.
func TestLongStatesAreRefusedAtOnce(t *testing.T) {
	long := some()
	long.Posted = slices.Repeat(long.Posted, 1<<14)
	parts := plain(1)
	parts.Posted[0].Total.Parts = slices.Repeat(parts.Posted[0].Total.Parts, 1<<16)
	book := some()
	book.Book = slices.Repeat(book.Book, 1<<14)
	for _, s := range []api.State{long, parts, book} {
		for range 2000 {
			if Right(s) {
				t.Fatal("right")
			}
		}
	}
}
