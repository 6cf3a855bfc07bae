package image_test

import (
	"bytes"
	"math"
	"math/big"
	"reflect"
	"slices"
	"sort"
	"testing"

	"impost/api"
	"impost/billing"
	"impost/image"
)

const (
	most = math.MaxInt
	far  = math.MinInt
	// The limits, written out so that one that slips is seen.
	maxRates, maxSeries, maxPosted, maxParts, maxSessions = 24, 8, 40, 12, 8
	maxText                                               = 64
	cap40                                                 = 1099511627776
)

func day(y, m, d int) api.Date { return api.Date{Y: y, M: m, D: d} }

func today() api.Date { return day(2026, 11, 15) }

func ref(name string, n int) api.Ref { return api.Ref{Series: name, Number: n} }

// part is one as it is written.
func part(category string, bp, net int) api.Part {
	return api.Part{Category: category, Bp: bp, Net: net}
}

// bill is an invoice as it is written.
func bill(series string, d api.Date, parts ...api.Part) api.Posted {
	return api.Posted{Ref: ref(series, 0), Day: d, Total: api.Total{Parts: parts}}
}

// back is a credit as it is written.
func back(series string, d api.Date, of api.Ref, parts ...api.Part) api.Posted {
	p := bill(series, d, parts...)
	p.Of = of
	return p
}

// bills is a state as it is written, of two series and these invoices.
func bills(l ...api.Posted) api.State {
	return api.State{Series: []api.Series{{Name: "a", Limit: 99}, {Name: "b", Limit: 99}}, Posted: l, Next: 1}
}

// sums is a state as it is written, of invoices in the series a, each of one list of parts.
func sums(l ...[]api.Part) api.State {
	var out []api.Posted
	for _, parts := range l {
		out = append(out, bill("a", today(), parts...))
	}
	return bills(out...)
}

// token is a number, or a text, of an image; a flag, if it may be 0 or 1 alone; a count, if it has a most that isn't below 0.
type token struct {
	text, flag bool
	s          string
	n, most    int
}

func num(n int) token         { return token{n: n, most: -1} }
func txt(s string) token      { return token{text: true, s: s, most: -1} }
func count(n, most int) token { return token{n: n, most: most} }

func flag(f bool) token {
	t := token{flag: true, most: -1}
	if f {
		t.n = 1
	}
	return t
}

func dated(d api.Date) []token { return []token{num(d.Y), num(d.M), num(d.D)} }

// tokens are what the chapter says that is written of s, which need not be right.
func tokens(s api.State) []token {
	l := []token{count(len(s.Table), maxRates)}
	for _, x := range s.Table {
		l = append(l, slices.Concat([]token{txt(x.Category)}, dated(x.From), []token{num(x.Bp)})...)
	}
	l = append(l, count(len(s.Series), maxSeries))
	for _, x := range s.Series {
		l = append(l, txt(x.Name), num(x.Limit), flag(x.Shut))
	}
	l = append(l, count(len(s.Posted), maxPosted))
	for _, x := range s.Posted {
		l = append(l, slices.Concat([]token{txt(x.Ref.Series)}, dated(x.Day), []token{txt(x.Of.Series), num(x.Of.Number), count(len(x.Total.Parts), maxParts)})...)
		for _, y := range x.Total.Parts {
			l = append(l, txt(y.Category), num(y.Bp), num(y.Net))
		}
	}
	l = append(l, count(len(s.Sessions), maxSessions))
	for _, x := range s.Sessions {
		l = append(l, num(x.Id), num(x.Last), num(int(x.Reply.Why)), num(x.Reply.Number), num(x.Reply.Gross))
	}
	return append(l, num(s.Next))
}

func exact(n int) *big.Int { return big.NewInt(int64(n)) }

// digits is a number as chapter 2 writes it, by division.
func digits(n int) []byte {
	u := new(big.Int).Mul(exact(n), exact(2))
	if n < 0 {
		u.Sub(u.Neg(u), exact(1))
	}
	var out []byte
	for rest := new(big.Int); ; {
		u.DivMod(u, exact(128), rest)
		if u.Sign() == 0 {
			return append(out, byte(rest.Int64()))
		}
		out = append(out, byte(rest.Int64()+128))
	}
}

// lay is a token as bytes.
func lay(t token) []byte {
	if t.text {
		return append(digits(len(t.s)), t.s...)
	}
	return digits(t.n)
}

// laid are tokens as bytes.
func laid(l ...token) []byte {
	var out []byte
	for _, t := range l {
		out = append(out, lay(t)...)
	}
	return out
}

// written is s as bytes, right or not.
func written(s api.State) []byte { return laid(tokens(s)...) }

// walk goes through bytes as chapter 2 says of a reader.
type walk struct {
	b []byte
	e api.Errno
}

// fails gives the walk its error, if it has none.
func (w *walk) fails(e api.Errno) {
	if w.e == api.OK {
		w.e = e
	}
}

func (w *walk) num() int {
	if w.e != api.OK {
		return 0
	}
	u := new(big.Int)
	for k, x := range w.b {
		if k == 9 && x > 1 {
			w.fails(api.ErrForm)
			return 0
		}
		u.Add(u, new(big.Int).Lsh(exact(int(x%128)), uint(7*k)))
		if x >= 128 {
			continue
		}
		if k > 0 && x == 0 {
			w.fails(api.ErrForm)
			return 0
		}
		w.b = w.b[k+1:]
		if u.Bit(0) == 1 {
			return int(new(big.Int).Neg(u.Add(u, exact(1)).Rsh(u, 1)).Int64())
		}
		return int(u.Rsh(u, 1).Int64())
	}
	w.fails(api.ErrShort)
	return 0
}

func (w *walk) flag() bool {
	n := w.num()
	if n != 0 && n != 1 {
		w.fails(api.ErrForm)
	}
	return n == 1
}

func (w *walk) count(hi int) int {
	n := w.num()
	if n < 0 || n > hi {
		w.fails(api.ErrLong)
	}
	if n > len(w.b) {
		w.fails(api.ErrShort)
	}
	if w.e != api.OK {
		return 0
	}
	return n
}

func (w *walk) text() string {
	n := w.count(maxText)
	s := string(w.b[:n])
	w.b = w.b[n:]
	return s
}

func (w *walk) day() api.Date {
	y := w.num()
	m := w.num()
	return day(y, m, w.num())
}

// state is what is written of a state.
func (w *walk) state() api.State {
	var s api.State
	for range w.count(maxRates) {
		category, from := w.text(), w.day()
		s.Table = append(s.Table, api.Rate{Category: category, From: from, Bp: w.num()})
	}
	for range w.count(maxSeries) {
		name, limit := w.text(), w.num()
		s.Series = append(s.Series, api.Series{Name: name, Limit: limit, Shut: w.flag()})
	}
	for range w.count(maxPosted) {
		series, d, of := w.text(), w.day(), w.text()
		p := back(series, d, ref(of, w.num()))
		for range w.count(maxParts) {
			category, bp := w.text(), w.num()
			p.Total.Parts = append(p.Total.Parts, part(category, bp, w.num()))
		}
		s.Posted = append(s.Posted, p)
	}
	for range w.count(maxSessions) {
		id, last, why, n := w.num(), w.num(), w.num(), w.num()
		s.Sessions = append(s.Sessions, api.Session{Id: id, Last: last, Reply: api.Reply{Why: api.Errno(why), Number: n, Gross: w.num()}})
	}
	s.Next = w.num()
	return s
}

// wantGet is what the chapter says of Get.
func wantGet(b []byte) (api.State, api.Errno) {
	w := &walk{b: b}
	s := w.state()
	if len(w.b) > 0 {
		w.fails(api.ErrTail)
	}
	if w.e != api.OK {
		return api.State{}, w.e
	}
	s, ok := filled(s)
	if !ok || !billing.Right(s) {
		return api.State{}, api.ErrForm
	}
	return s, api.OK
}

// filled is s with all that isn't written reckoned without a bound; false, if something of it goes beyond an int.
func filled(s api.State) (api.State, bool) {
	s = twin(s)
	ok, met := true, map[string]int{}
	for i := range s.Posted {
		p := &s.Posted[i]
		met[p.Series]++
		p.Number = met[p.Series]
		ok = reckoned(&p.Total) && ok
	}
	for i := range s.Posted {
		s.Posted[i].Back = slices.ContainsFunc(s.Posted[i+1:], func(p api.Posted) bool { return p.Of == s.Posted[i].Ref })
	}
	for i := range s.Series {
		s.Series[i].Next = met[s.Series[i].Name] + 1
	}
	book, fits := ledger(s.Posted)
	s.Book = book
	return s, ok && fits
}

// reckoned gives t its Taxes and sums.
func reckoned(t *api.Total) bool {
	ok, net, tax := true, new(big.Int), new(big.Int)
	for i := range t.Parts {
		x := &t.Parts[i]
		share := share(x.Net, x.Bp)
		ok = ok && x.Bp >= 0 && x.Bp <= 100000 && share.IsInt64() && share.Int64() != far
		x.Tax = int(share.Int64())
		net.Add(net, exact(x.Net))
		tax.Add(tax, share)
	}
	gross := new(big.Int).Add(net, tax)
	t.Net, t.Tax, t.Gross = int(net.Int64()), int(tax.Int64()), int(gross.Int64())
	return ok && net.IsInt64() && tax.IsInt64() && gross.IsInt64()
}

// share is the share of n at bp, rounded half up, of one below 0 what it is of the other, below 0.
func share(n, bp int) *big.Int {
	twice := new(big.Int).Mul(new(big.Int).Abs(exact(n)), exact(2))
	twice.Mul(twice, exact(bp))
	s := new(big.Int).Div(twice.Add(twice, exact(10000)), exact(20000))
	return s.Mul(s, exact(exact(n).Sign()))
}

// ledger is the book of l; false, if an account goes too far on its way.
func ledger(l []api.Posted) ([]api.Balance, bool) {
	accounts, ok := map[string]*big.Int{}, true
	add := func(account string, n *big.Int) {
		if accounts[account] == nil {
			accounts[account] = new(big.Int)
		}
		ok = n.IsInt64() && accounts[account].Add(accounts[account], n).IsInt64() && ok
	}
	for _, p := range l {
		add("owed", exact(p.Total.Gross))
		for _, x := range p.Total.Parts {
			add("net/"+x.Category, new(big.Int).Neg(exact(x.Net)))
			add("tax/"+x.Category, new(big.Int).Neg(exact(x.Tax)))
		}
	}
	var out []api.Balance
	for account, n := range accounts {
		out = append(out, api.Balance{Account: account, Amount: int(n.Int64())})
	}
	sort.Slice(out, func(i, j int) bool { return out[i].Account < out[j].Account })
	return out, ok
}

// twin is s in memory of its own; empty lists are nil.
func twin(s api.State) api.State {
	s.Table, s.Series, s.Posted = own(s.Table), own(s.Series), own(s.Posted)
	for i := range s.Posted {
		s.Posted[i].Total.Parts = own(s.Posted[i].Total.Parts)
	}
	s.Book, s.Sessions = own(s.Book), own(s.Sessions)
	return s
}

func own[T any](l []T) []T {
	if len(l) == 0 {
		return nil
	}
	return slices.Clone(l)
}

// same tells whether two states are the same in every field; nil and empty lists are.
func same(a, b api.State) bool { return reflect.DeepEqual(twin(a), twin(b)) }

// right is s, as it is written, with all that is reckoned; it must be right.
func right(t *testing.T, s api.State) api.State {
	t.Helper()
	s, ok := filled(s)
	if !ok || !billing.Right(s) {
		t.Fatalf("not right: %v", s)
	}
	return s
}

// goes asks that the right state s is written as the chapter says, and read back.
func goes(t *testing.T, s api.State) []byte {
	t.Helper()
	b := image.Put(s)
	if !bytes.Equal(b, written(s)) {
		t.Fatalf("Put(%v): % x, not % x", s, b, written(s))
	}
	got, e := image.Get(b)
	if e != api.OK || !same(got, s) {
		t.Fatalf("Get(% x): %v, %v, not %v", b, got, e, s)
	}
	return b
}

// zero tells whether s has nothing at all.
func zero(s api.State) bool { return same(s, api.State{}) }

// refused asks that b has that error, and nothing beside it.
func refused(t *testing.T, b []byte, want api.Errno) {
	t.Helper()
	if s, e := image.Get(b); e != want || !zero(s) {
		t.Errorf("Get(% x): %v, %v, not %v", b, s, e, want)
	}
}

// held holds Get of b against the model.
func held(t *testing.T, b []byte) api.Errno {
	t.Helper()
	want, why := wantGet(b)
	got, e := image.Get(b)
	if e != why || !same(got, want) {
		t.Fatalf("Get(% x): %v, %v, not %v, %v", b, got, e, want, why)
	}
	if e == api.OK && (!billing.Right(got) || !bytes.Equal(image.Put(got), b)) {
		t.Fatalf("Get(% x) is written as % x", b, image.Put(got))
	}
	return e
}

// byHand is a right state, and its image, both written out by hand.
func byHand() (api.State, []byte) {
	food, std := api.Part{Category: "food", Bp: 700, Net: 300, Tax: 21}, api.Part{Category: "std", Bp: 1900, Net: 100, Tax: 19}
	off := api.Part{Category: "std", Bp: 1900, Net: -50, Tax: -10}
	noFood, noStd := api.Part{Category: "food", Bp: 700, Net: -300, Tax: -21}, api.Part{Category: "std", Bp: 1900, Net: -100, Tax: -19}
	s := api.State{
		Table:  []api.Rate{{Category: "food", From: day(2000, 1, 2), Bp: 700}, {Category: "std", From: day(2026, 11, 15), Bp: 1900}},
		Series: []api.Series{{Name: "a", Next: 2, Limit: 9}, {Name: "b", Next: 3, Limit: cap40, Shut: true}},
		Posted: []api.Posted{
			{Ref: ref("a", 1), Day: day(2026, 11, 15), Total: api.Total{Net: 400, Tax: 40, Gross: 440, Parts: []api.Part{food, std}}, Back: true},
			{Ref: ref("b", 1), Day: day(2025, 10, 14), Total: api.Total{Net: -50, Tax: -10, Gross: -60, Parts: []api.Part{off}}},
			{Ref: ref("b", 2), Day: day(2026, 12, 1), Total: api.Total{Net: -400, Tax: -40, Gross: -440, Parts: []api.Part{noFood, noStd}}, Of: ref("a", 1)},
		},
		Book:     []api.Balance{{Account: "net/food"}, {Account: "net/std", Amount: 50}, {Account: "owed", Amount: -60}, {Account: "tax/food"}, {Account: "tax/std", Amount: 10}},
		Sessions: []api.Session{{Id: 1}, {Id: 3, Last: 7, Reply: api.Reply{Number: 2, Gross: -60}}, {Id: 4, Last: cap40, Reply: api.Reply{Why: api.ErrFull}}},
		Next:     6,
	}
	b := []byte{
		0x04, // two rates
		0x08, 'f', 'o', 'o', 'd', 0xa0, 0x1f, 0x02, 0x04, 0xf8, 0x0a,
		0x06, 's', 't', 'd', 0xd4, 0x1f, 0x16, 0x1e, 0xd8, 0x1d,
		0x04, // two series
		0x02, 'a', 0x12, 0x00,
		0x02, 'b', 0x80, 0x80, 0x80, 0x80, 0x80, 0x40, 0x02,
		0x06, // three invoices
		0x02, 'a', 0xd4, 0x1f, 0x16, 0x1e, 0x00, 0x00, 0x04, 0x08, 'f', 'o', 'o', 'd', 0xf8, 0x0a, 0xd8, 0x04, 0x06, 's', 't', 'd', 0xd8, 0x1d, 0xc8, 0x01,
		0x02, 'b', 0xd2, 0x1f, 0x14, 0x1c, 0x00, 0x00, 0x02, 0x06, 's', 't', 'd', 0xd8, 0x1d, 0x63,
		0x02, 'b', 0xd4, 0x1f, 0x18, 0x02, 0x02, 'a', 0x02, 0x04, 0x08, 'f', 'o', 'o', 'd', 0xf8, 0x0a, 0xd7, 0x04, 0x06, 's', 't', 'd', 0xd8, 0x1d, 0xc7, 0x01,
		0x06, // three sessions
		0x02, 0x00, 0x00, 0x00, 0x00,
		0x06, 0x0e, 0x00, 0x04, 0x77,
		0x08, 0x80, 0x80, 0x80, 0x80, 0x80, 0x40, 0x1c, 0x00, 0x00,
		0x0c, // the next session
	}
	return s, b
}
