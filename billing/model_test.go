package billing

import (
	"math"
	"math/big"
	"slices"
	"sort"

	"impost/api"
	"impost/date"
	"impost/invoice"
	"impost/series"
	"impost/session"
	"impost/sign"
	"impost/vat"
)

const (
	most = math.MaxInt
	far  = math.MinInt
	// The chapter's limits, written out so that a limit that slips is seen.
	cap40  = 1099511627776
	forty  = 40
	twelve = 12
	eight  = 8
)

func day(y, m, d int) api.Date { return api.Date{Y: y, M: m, D: d} }

func ref(name string, n int) api.Ref { return api.Ref{Series: name, Number: n} }

// today is the day of the chapter's runs.
func today() api.Date { return day(2026, 11, 15) }

func why(e api.Errno) api.Reply { return api.Reply{Why: e} }

func told(n, gross int) api.Reply { return api.Reply{Number: n, Gross: gross} }

// The commands, each with the fields of its Kind alone.

func cOpen(name string, limit int) api.Cmd {
	return api.Cmd{Kind: api.COpen, Series: name, Limit: limit}
}

func cShut(name string) api.Cmd { return api.Cmd{Kind: api.CShut, Series: name} }

func cLevy(category string, from api.Date, bp int) api.Cmd {
	return api.Cmd{Kind: api.CLevy, Row: api.Rate{Category: category, From: from, Bp: bp}}
}

func cPost(name string, d api.Date, lines ...api.Line) api.Cmd {
	return api.Cmd{Kind: api.CPost, Series: name, Day: d, Lines: lines}
}

func cCredit(name string, d api.Date, of string, n int) api.Cmd {
	return api.Cmd{Kind: api.CCredit, Series: name, Day: d, Of: ref(of, n)}
}

func cJoin() api.Cmd { return api.Cmd{Kind: api.CJoin} }

func cLeave(id int) api.Cmd { return api.Cmd{Kind: api.CLeave, Session: id} }

func cAsk(name string) api.Cmd { return api.Cmd{Kind: api.CAsk, Series: name} }

func line(count, price int, category string) api.Line {
	return api.Line{Category: category, Count: count, Price: price}
}

// by is the call of a session.
func by(id, seq int, c api.Cmd) api.Call { return api.Call{Session: id, Seq: seq, Cmd: c} }

// some is a right state with several of all: series that are in use, at their limit, shut and new; rates that change; sessions that are fresh, that were answered, that were refused, and one that left; invoices of one part and of more, one that was taken back, and its credit.
func some() api.State {
	std, food := api.Part{Category: "std", Bp: 1900, Net: 100, Tax: 19}, api.Part{Category: "food", Bp: 500, Net: 300, Tax: 15}
	off := api.Part{Category: "std", Bp: 1900, Net: -50, Tax: -10}
	back := api.Part{Category: "std", Bp: 1900, Net: -100, Tax: -19}
	return api.State{
		Table:  []api.Rate{{Category: "food", From: day(2000, 1, 1), Bp: 700}, {Category: "food", From: day(2020, 7, 1), Bp: 500}, {Category: "std", From: day(2000, 1, 1), Bp: 1900}},
		Series: []api.Series{{Name: "a", Next: 3, Limit: 9}, {Name: "b", Next: 2, Limit: 1}, {Name: "c", Next: 2, Limit: 5, Shut: true}, {Name: "d", Next: 1, Limit: cap40}},
		Posted: []api.Posted{
			{Ref: ref("a", 1), Day: today(), Total: api.Total{Net: 100, Tax: 19, Gross: 119, Parts: []api.Part{std}}, Back: true},
			{Ref: ref("b", 1), Day: day(2026, 11, 16), Total: api.Total{Net: 400, Tax: 34, Gross: 434, Parts: []api.Part{food, std}}},
			{Ref: ref("c", 1), Day: today(), Total: api.Total{Net: -100, Tax: -19, Gross: -119, Parts: []api.Part{back}}, Of: ref("a", 1)},
			{Ref: ref("a", 2), Day: day(2026, 1, 1), Total: api.Total{Net: -50, Tax: -10, Gross: -60, Parts: []api.Part{off}}},
		},
		Book:     []api.Balance{{Account: "net/food", Amount: -300}, {Account: "net/std", Amount: -50}, {Account: "owed", Amount: 374}, {Account: "tax/food", Amount: -15}, {Account: "tax/std", Amount: -9}},
		Sessions: []api.Session{{Id: 1}, {Id: 2, Last: 5, Reply: told(1, 119)}, {Id: 4, Last: 7, Reply: why(api.ErrTaken)}, {Id: 5, Last: cap40}},
		Next:     6,
	}
}

// twin is s in memory of its own, nil and empty lists as they are.
func twin(s api.State) api.State {
	s.Table, s.Series, s.Posted = slices.Clone(s.Table), slices.Clone(s.Series), slices.Clone(s.Posted)
	for i := range s.Posted {
		s.Posted[i].Total.Parts = slices.Clone(s.Posted[i].Total.Parts)
	}
	s.Book, s.Sessions = slices.Clone(s.Book), slices.Clone(s.Sessions)
	return s
}

// alike tells whether two states are the same; nil and empty lists are.
func alike(a, b api.State) bool {
	return a.Next == b.Next && slices.Equal(a.Table, b.Table) && slices.Equal(a.Series, b.Series) && slices.Equal(a.Book, b.Book) && slices.Equal(a.Sessions, b.Sessions) && slices.EqualFunc(a.Posted, b.Posted, alikePosted)
}

func alikePosted(a, b api.Posted) bool {
	return a.Ref == b.Ref && a.Day == b.Day && a.Of == b.Of && a.Back == b.Back && alikeTotal(a.Total, b.Total)
}

func alikeTotal(a, b api.Total) bool {
	return a.Net == b.Net && a.Tax == b.Tax && a.Gross == b.Gross && slices.Equal(a.Parts, b.Parts)
}

func number(n int) *big.Int { return big.NewInt(int64(n)) }

// is tells whether n is the exact sum.
func is(n int, sum *big.Int) bool { return number(n).Cmp(sum) == 0 }

// share is the share of n at bp without a bound, rounded half up, of one below 0 what it is of the other, below 0.
func share(n, bp int) *big.Int {
	twice := new(big.Int).Mul(new(big.Int).Abs(number(n)), number(2))
	twice.Mul(twice, number(bp))
	s := new(big.Int).Div(twice.Add(twice, number(10000)), number(20000))
	return s.Mul(s, number(number(n).Sign()))
}

// broken are the clauses of the chapter's sentence on right states that don't hold of s, in its order.
func broken(s api.State) []string {
	var out []string
	holds := func(clause string, ok bool) {
		if !ok {
			out = append(out, clause)
		}
	}
	holds("table", vat.Right(s.Table))
	holds("series", series.Right(s.Series))
	holds("sessions", session.Right(s.Sessions))
	holds("ids", !slices.ContainsFunc(s.Sessions, func(x api.Session) bool { return x.Id >= s.Next }))
	holds("next", s.Next > 0 && s.Next <= cap40)
	holds("many", len(s.Posted) <= forty)
	holds("home", !slices.ContainsFunc(s.Posted, func(p api.Posted) bool {
		return !slices.ContainsFunc(s.Series, func(x api.Series) bool { return x.Name == p.Series })
	}))
	holds("numbers", !slices.ContainsFunc(s.Series, func(x api.Series) bool { return !counted(s.Posted, x) }))
	clauses := []struct {
		name string
		ok   func(p api.Posted) bool
	}{
		{"day", func(p api.Posted) bool { return date.Right(p.Day) }},
		{"parts", func(p api.Posted) bool { return len(p.Total.Parts) > 0 && len(p.Total.Parts) <= twelve }},
		{"name", func(p api.Posted) bool { return each(p, func(x api.Part) bool { return sign.Name(x.Category) }) }},
		{"rise", rising},
		{"bp", func(p api.Posted) bool { return each(p, func(x api.Part) bool { return x.Bp >= 0 && x.Bp <= 100000 }) }},
		{"tax", func(p api.Posted) bool {
			return each(p, func(x api.Part) bool { return x.Tax != far && is(x.Tax, share(x.Net, x.Bp)) })
		}},
		{"net", func(p api.Posted) bool { return is(p.Total.Net, heap(p, func(x api.Part) int { return x.Net })) }},
		{"taxes", func(p api.Posted) bool { return is(p.Total.Tax, heap(p, func(x api.Part) int { return x.Tax })) }},
		{"gross", func(p api.Posted) bool {
			return is(p.Total.Gross, new(big.Int).Add(number(p.Total.Net), number(p.Total.Tax)))
		}},
	}
	for _, c := range clauses {
		holds(c.name, !slices.ContainsFunc(s.Posted, func(p api.Posted) bool { return !c.ok(p) }))
	}
	return append(out, brokenCredits(s)...)
}

// each tells whether ok holds of all parts.
func each(p api.Posted, ok func(x api.Part) bool) bool {
	return !slices.ContainsFunc(p.Total.Parts, func(x api.Part) bool { return !ok(x) })
}

// rising tells whether each Category is less than all behind it.
func rising(p api.Posted) bool {
	for i, x := range p.Total.Parts {
		for _, y := range p.Total.Parts[i+1:] {
			if x.Category >= y.Category {
				return false
			}
		}
	}
	return true
}

// heap is the exact sum of what of tells of the parts.
func heap(p api.Posted, of func(x api.Part) int) *big.Int {
	sum := new(big.Int)
	for _, x := range p.Total.Parts {
		sum.Add(sum, number(of(x)))
	}
	return sum
}

// counted tells whether the Numbers that x has in l are 1, 2, 3 and so on up to its Next less 1.
func counted(l []api.Posted, x api.Series) bool {
	var have []int
	for _, p := range l {
		if p.Series == x.Name {
			have = append(have, p.Number)
		}
	}
	for i, n := range have {
		if n != i+1 {
			return false
		}
	}
	return x.Next == len(have)+1
}

// brokenCredits are the clauses on credits and on the book that don't hold of s.
func brokenCredits(s api.State) []string {
	bad := map[string]bool{}
	for i, p := range s.Posted {
		later := 0
		for _, q := range s.Posted[i+1:] {
			if q.Of == p.Ref {
				later++
			}
		}
		if later > 1 || p.Back != (later == 1) {
			bad["back"] = true
		}
		if p.Of == (api.Ref{}) {
			continue
		}
		j := slices.IndexFunc(s.Posted[:i], func(q api.Posted) bool { return q.Ref == p.Of })
		if j < 0 {
			bad["of"] = true
			continue
		}
		of := s.Posted[j]
		t, e := invoice.Back(of.Total)
		bad["of a credit"] = bad["of a credit"] || of.Of != (api.Ref{})
		bad["of a later day"] = bad["of a later day"] || date.Days(p.Day) >= 0 && date.Days(p.Day) < date.Days(of.Day)
		bad["of another total"] = bad["of another total"] || e != api.OK || !alikeTotal(t, p.Total)
	}
	book, ok := ledger(s.Posted)
	bad["book"] = !ok || !slices.Equal(book, s.Book)
	var out []string
	for _, clause := range []string{"of", "of a credit", "of a later day", "of another total", "back", "book"} {
		if bad[clause] {
			out = append(out, clause)
		}
	}
	return out
}

// ledger is the book of l, reckoned without a bound; false, if an account goes too far on its way.
func ledger(l []api.Posted) ([]api.Balance, bool) {
	accounts := map[string]*big.Int{}
	ok := true
	add := func(account string, n *big.Int) {
		if accounts[account] == nil {
			accounts[account] = new(big.Int)
		}
		ok = ok && n.IsInt64() && accounts[account].Add(accounts[account], n).IsInt64()
	}
	for _, p := range l {
		add("owed", number(p.Total.Gross))
		for _, x := range p.Total.Parts {
			add("net/"+x.Category, new(big.Int).Neg(number(x.Net)))
			add("tax/"+x.Category, new(big.Int).Neg(number(x.Tax)))
		}
	}
	var out []api.Balance
	for account, n := range accounts {
		out = append(out, api.Balance{Account: account, Amount: int(n.Int64())})
	}
	sort.Slice(out, func(i, j int) bool { return out[i].Account < out[j].Account })
	return out, ok
}

// wantApply is what the chapter says of Apply. It changes a state of its own, and goes back to what was, if there is a refusal.
func wantApply(s api.State, c api.Call) (api.State, api.Reply) {
	was := twin(s)
	if len(broken(s)) > 0 {
		return was, why(api.ErrArg)
	}
	if c.Cmd.Kind < 1 || c.Cmd.Kind > 8 {
		return was, why(api.ErrKind)
	}
	if c.Cmd.Kind == api.CJoin {
		if len(s.Sessions) >= eight || s.Next >= cap40 {
			return was, why(api.ErrFull)
		}
		was.Sessions = append(was.Sessions, api.Session{Id: s.Next})
		was.Next++
		return was, told(s.Next, 0)
	}
	old, is, e := session.Look(s.Sessions, c.Session, c.Seq)
	if e != api.OK {
		return was, why(e)
	}
	if is {
		return was, old
	}
	next := twin(s)
	r := wantDone(&next, c.Cmd)
	if r.Why != api.OK {
		next = was
	}
	for i := range next.Sessions {
		if next.Sessions[i].Id == c.Session {
			next.Sessions[i] = api.Session{Id: c.Session, Last: c.Seq, Reply: r}
		}
	}
	return next, r
}

// wantDone is what the chapter's table says, done to s.
func wantDone(s *api.State, c api.Cmd) api.Reply {
	var e api.Errno
	switch c.Kind {
	case api.COpen:
		s.Series, e = series.Open(s.Series, c.Series, c.Limit)
	case api.CShut:
		s.Series, e = series.Shut(s.Series, c.Series)
	case api.CLevy:
		s.Table, e = vat.Put(s.Table, c.Row)
	case api.CLeave:
		s.Sessions, e = session.Leave(s.Sessions, c.Session)
	case api.CPost:
		t, e := invoice.Total(s.Table, c.Day, c.Lines)
		if e != api.OK {
			return why(e)
		}
		return wantIssued(s, api.Posted{Ref: ref(c.Series, 0), Day: c.Day, Total: t})
	case api.CCredit:
		return wantCredit(s, c)
	case api.CAsk:
		for _, x := range s.Series {
			if x.Name == c.Series {
				gross := 0
				for _, b := range s.Book {
					if b.Account == "owed" {
						gross = b.Amount
					}
				}
				return told(x.Next-1, gross)
			}
		}
		return why(api.ErrNone)
	}
	return why(e)
}

func wantCredit(s *api.State, c api.Cmd) api.Reply {
	for i := range s.Posted {
		p := s.Posted[i]
		if p.Series != c.Of.Series || p.Number != c.Of.Number {
			continue
		}
		if p.Back || p.Of.Series != "" || p.Of.Number != 0 {
			return why(api.ErrTaken)
		}
		if n := date.Days(c.Day); n < 0 || n < date.Days(p.Day) {
			return why(api.ErrDate)
		}
		t, e := invoice.Back(p.Total)
		if e != api.OK {
			return why(e)
		}
		r := wantIssued(s, api.Posted{Ref: ref(c.Series, 0), Day: c.Day, Total: t, Of: p.Ref})
		s.Posted[i].Back = true
		return r
	}
	return why(api.ErrNone)
}

// wantIssued reckons the book anew from all invoices.
func wantIssued(s *api.State, p api.Posted) api.Reply {
	l, n, e := series.Take(s.Series, p.Series)
	if e != api.OK {
		return why(e)
	}
	if len(s.Posted) >= forty {
		return why(api.ErrFull)
	}
	p.Number = n
	s.Series, s.Posted = l, append(s.Posted, p)
	book, ok := ledger(s.Posted)
	if !ok {
		return why(api.ErrOver)
	}
	s.Book = book
	return told(n, p.Total.Gross)
}
