package invoice

import (
	"math"
	"math/big"
	"math/rand"
	"slices"
	"strings"

	"impost/api"
	"impost/date"
	"impost/sign"
)

const (
	most = math.MaxInt
	far  = math.MinInt
	// twelve, meg and sixtyFour are the chapter's limits, written out so that a limit that slips is seen.
	twelve    = 12
	meg       = 1048576
	sixtyFour = 64
)

func day(y, m, d int) api.Date { return api.Date{Y: y, M: m, D: d} }

func row(category string, y, m, d, bp int) api.Rate {
	return api.Rate{Category: category, From: day(y, m, d), Bp: bp}
}

func line(count, price int, category string) api.Line {
	return api.Line{Text: "t", Category: category, Count: count, Price: price}
}

func part(category string, bp, net, tax int) api.Part {
	return api.Part{Category: category, Bp: bp, Net: net, Tax: tax}
}

func total(net, tax, gross int, parts ...api.Part) api.Total {
	return api.Total{Net: net, Tax: tax, Gross: gross, Parts: parts}
}

// now is the day of the chapter's runs.
func now() api.Date { return day(2021, 1, 1) }

// chapter is the table of the chapter's runs.
func chapter() []api.Rate {
	return []api.Rate{row("food", 2000, 1, 1, 700), row("food", 2020, 7, 1, 500), row("std", 2000, 1, 1, 1900)}
}

// edges is a table whose rates are at the edges: a, c and e have none, full is all of it, above one more, ten the greatest.
func edges() []api.Rate {
	return []api.Rate{row("a", 2000, 1, 1, 0), row("above", 2000, 1, 1, 10001), row("b", 2000, 1, 1, 1), row("c", 2000, 1, 1, 0), row("e", 2000, 1, 1, 0), row("full", 2000, 1, 1, 10000), row("half", 2000, 1, 1, 5000), row("ten", 2000, 1, 1, 100000), row("tenth", 2000, 1, 1, 100000)}
}

// many is a right table of n rows, each of a category of its own.
func many(n int) []api.Rate {
	var l []api.Rate
	for i := range n {
		l = append(l, row("c"+string(rune('a'+i)), 2000, 1, 1, i*100))
	}
	return l
}

// same tells whether two totals are alike, their parts one by one.
func same(a, b api.Total) bool {
	return a.Net == b.Net && a.Tax == b.Tax && a.Gross == b.Gross && slices.Equal(a.Parts, b.Parts)
}

// roomy is l with spare room that has fill in it.
func roomy[T any](l []T, fill T) []T {
	out := append(make([]T, 0, len(l)+5), l...)
	for i := len(l); i < cap(out); i++ {
		out[:cap(out)][i] = fill
	}
	return out
}

// entire is a copy of l with its spare room.
func entire[T any](l []T) []T { return slices.Clone(l[:cap(l)]) }

// nameless are texts that are no names.
func nameless() []string {
	return []string{"", " ", "7", "7a", "-a", ".a", "_a", "a b", "a\x00", "\x00", "food ", " food", "a\xff", "\xff", "\xc3", "a\xc3", "\u00d7", "a\u00f7", "a\u0663", "\ufffd", "a/b", "a,b", "\u0250", strings.Repeat("a", 25), strings.Repeat("\u00fc", 12) + "a", strings.Repeat("a", 5000)}
}

// named are names, in the order of their bytes, as many as a table has room for.
func named() []string {
	return []string{"A", "B", "Food", "Z", "a", "a-", "a-a", "a.", "a0", "a9", "aA", "a_", "aa", "aaa", strings.Repeat("a", 24), "ab", "a\u00e4", "b", "food", "foods", "z", "\u00c4", "\u00e4", "\u024f"}
}

// strange are days that aren't right.
func strange() []api.Date {
	days := []api.Date{{}, day(0, 12, 31), day(10000, 1, 1), day(2000, 0, 1), day(2000, 13, 1), day(2000, 1, 0), day(2000, 1, 32), day(2021, 2, 29), day(1900, 2, 29), day(2000, 4, 31), day(-2000, 1, 1)}
	for _, n := range []int{far, far + 1, -1, 1<<32 + 1, most - 1, most} {
		days = append(days, day(n, 1, 1), day(2000, n, 1), day(2000, 1, n), day(n, n, n))
	}
	return days
}

// wrongTables are lists that are no tables. Each has the rows of the chapter's runs that an ordinary line needs, but for the ones that are too long.
func wrongTables() [][]api.Rate {
	l := chapter()
	tables := [][]api.Rate{
		{l[1], l[0], l[2]}, {l[0], l[2], l[1]}, {l[2], l[0]}, {l[0], l[0], l[2]}, {l[0], l[2], l[2]}, {{}, l[0], l[2]}, {l[0], l[2], {}}, many(25), append(many(24), l[2]),
	}
	for _, r := range []api.Rate{row("zz", 2021, 2, 29, 1), row("zz", 2000, 1, 1, -1), row("zz", 2000, 1, 1, 100001), row("zz", 2000, 1, 1, most), row("zz", 2000, 1, 1, far), row("zz ", 2000, 1, 1, 1), row("z\xff", 2000, 1, 1, 1), row("zz", most, far, most, 1)} {
		tables = append(tables, []api.Rate{l[0], l[2], r})
	}
	return tables
}

// rated is the chapter's sentence on tables, asked of each pair of rows.
func rated(l []api.Rate) bool {
	for i, r := range l {
		for _, s := range l[i+1:] {
			if r.Category > s.Category || r.Category == s.Category && date.Days(r.From) >= date.Days(s.From) {
				return false
			}
		}
		if !sign.Name(r.Category) || date.Days(r.From) < 0 || r.Bp < 0 || r.Bp > 100000 {
			return false
		}
	}
	return len(l) <= 24
}

// found goes by the nearest day that d is not ahead of, whatever the order of l.
func found(l []api.Rate, category string, d api.Date) (int, bool) {
	bp, near := 0, -1
	for _, r := range l {
		if n := date.Days(r.From); r.Category == category && n <= date.Days(d) && n > near {
			bp, near = r.Bp, n
		}
	}
	return bp, near >= 0
}

// Steps of a reckoning, of which the first that is refused is told.
const (
	sTable = iota
	sDay
	sNone
	sMany
	sText
	sName
	sCount
	sRate
	sMul
	sPart
	sTax
	sNet
	sTaxes
	sGross
	sTold
	sSteps
)

// why is the error of a step.
func why(step int) api.Errno {
	return [sSteps]api.Errno{api.ErrArg, api.ErrDate, api.ErrArg, api.ErrLong, api.ErrLong, api.ErrName, api.ErrArg, api.ErrRate, api.ErrOver, api.ErrOver, api.ErrOver, api.ErrOver, api.ErrOver, api.ErrOver, api.OK}[step]
}

// pile is a part, reckoned without a bound.
type pile struct {
	category string
	bp       int
	net      *big.Int
}

// over tells whether n is no amount.
func over(n *big.Int) bool { return !n.IsInt64() }

// share is the share of n at bp, rounded half up, of one below 0 what it is of the other, below 0.
func share(n *big.Int, bp int) *big.Int {
	twice := new(big.Int).Mul(new(big.Int).Abs(n), big.NewInt(int64(2*bp)))
	s := new(big.Int).Div(twice.Add(twice, big.NewInt(10000)), big.NewInt(20000))
	return s.Mul(s, big.NewInt(int64(n.Sign())))
}

// want is what the chapter says of Total, and at which step it is refused, if it is.
func want(table []api.Rate, d api.Date, lines []api.Line) (api.Total, int) {
	switch {
	case !rated(table):
		return api.Total{}, sTable
	case date.Days(d) < 0:
		return api.Total{}, sDay
	case len(lines) == 0:
		return api.Total{}, sNone
	case len(lines) > twelve:
		return api.Total{}, sMany
	}
	piles, step := piled(table, d, lines)
	if step != sTold {
		return api.Total{}, step
	}
	slices.SortFunc(piles, func(a, b pile) int { return strings.Compare(a.category, b.category) })
	return heaped(piles)
}

// piled is what the lines come to, by categories, in the order in which they are met.
func piled(table []api.Rate, d api.Date, lines []api.Line) ([]pile, int) {
	var piles []pile
	for _, l := range lines {
		bp, ok := found(table, l.Category, d)
		net := new(big.Int).Mul(big.NewInt(int64(l.Count)), big.NewInt(int64(l.Price)))
		switch {
		case len(l.Text) > sixtyFour:
			return nil, sText
		case !sign.Name(l.Category):
			return nil, sName
		case l.Count <= 0 || l.Count > meg:
			return nil, sCount
		case !ok:
			return nil, sRate
		case over(net):
			return nil, sMul
		}
		at := slices.IndexFunc(piles, func(p pile) bool { return p.category == l.Category })
		if at < 0 {
			at, piles = len(piles), append(piles, pile{l.Category, bp, new(big.Int)})
		}
		if over(piles[at].net.Add(piles[at].net, net)) {
			return nil, sPart
		}
	}
	return piles, sTold
}

// heaped is the whole of the piles.
func heaped(piles []pile) (api.Total, int) {
	var out api.Total
	net, taxes := new(big.Int), new(big.Int)
	for _, p := range piles {
		tax := share(p.net, p.bp)
		if over(tax) || tax.Int64() == far {
			return api.Total{}, sTax
		}
		if over(net.Add(net, p.net)) {
			return api.Total{}, sNet
		}
		if over(taxes.Add(taxes, tax)) {
			return api.Total{}, sTaxes
		}
		out.Parts = append(out.Parts, part(p.category, p.bp, int(p.net.Int64()), int(tax.Int64())))
	}
	gross := new(big.Int).Add(net, taxes)
	if over(gross) {
		return api.Total{}, sGross
	}
	out.Net, out.Tax, out.Gross = int(net.Int64()), int(taxes.Int64()), int(gross.Int64())
	return out, sTold
}

// wantBack is what the chapter says of Back.
func wantBack(t api.Total) (api.Total, api.Errno) {
	least := t.Net == far || t.Tax == far || t.Gross == far
	out := total(-t.Net, -t.Tax, -t.Gross)
	for _, p := range t.Parts {
		least = least || p.Net == far || p.Tax == far
		out.Parts = append(out.Parts, part(p.Category, p.Bp, -p.Net, -p.Tax))
	}
	if least {
		return api.Total{}, api.ErrOver
	}
	return out, api.OK
}

// pick is one of l.
func pick[T any](draw *rand.Rand, l ...T) T { return l[draw.Intn(len(l))] }

// drawnName is one of few, so that lines and rows meet; rarely it is none.
func drawnName(draw *rand.Rand) string {
	if draw.Intn(60) == 0 {
		return pick(draw, nameless()...)
	}
	return pick(draw, "a", "A", "aa", "b", "food", "foods", "z", "\u00fc")
}

// drawnDay is near the days from which drawn rates hold; rarely it isn't right.
func drawnDay(draw *rand.Rand) api.Date {
	if draw.Intn(60) == 0 {
		return pick(draw, strange()...)
	}
	return pick(draw, day(1, 1, 1), day(1999, 12, 31), day(2000, 1, 1), day(2000, 1, 2), day(2020, 6, 30), day(2020, 7, 1), day(2020, 7, 2), day(9999, 12, 31))
}

// drawnTable has one to three rows of most names; rarely it is out of order or has a wrong row.
func drawnTable(draw *rand.Rand) []api.Rate {
	var l []api.Rate
	for _, name := range []string{"A", "a", "aa", "b", "food", "foods", "z", "\u00fc"} {
		for _, from := range []api.Date{day(1, 1, 1), day(2000, 1, 1), day(2020, 7, 1)} {
			if draw.Intn(3) > 0 {
				l = append(l, api.Rate{Category: name, From: from, Bp: pick(draw, 0, 1, 700, 1900, 5000, 9999, 10000, 10001, 100000, draw.Intn(100001))})
			}
		}
	}
	if len(l) > 1 && draw.Intn(40) == 0 {
		at := draw.Intn(len(l) - 1)
		l[at], l[at+1] = l[at+1], l[at]
	}
	if len(l) > 0 && draw.Intn(40) == 0 {
		l[draw.Intn(len(l))] = api.Rate{Category: drawnName(draw), From: drawnDay(draw), Bp: pick(draw, far, -1, 100001, most)}
	}
	return l
}

// drawnPrice is small, near to an edge of what can be reckoned with, or any.
func drawnPrice(draw *rand.Rand) int {
	switch draw.Intn(8) {
	case 0:
		return int(draw.Uint64())
	case 1:
		return pick(draw, far, far+1, most, most-1, most/2, far/2, most/10, far/10, most/10-1, 1<<62, -1<<62, 1<<43, -1<<43)
	}
	return draw.Intn(2001) - 1000
}

// drawnCount is mostly small; rarely it is none.
func drawnCount(draw *rand.Rand) int {
	switch draw.Intn(60) {
	case 0:
		return pick(draw, far, -1, 0, meg+1, 1<<32+1, most)
	case 1, 2, 3:
		return pick(draw, meg, meg-1, 1+draw.Intn(meg))
	}
	return 1 + draw.Intn(4)
}

// drawnLine is mostly one that may be.
func drawnLine(draw *rand.Rand) api.Line {
	text := strings.Repeat(pick(draw, "x", "\xff"), pick(draw, 0, 1, 63, 64))
	if draw.Intn(60) == 0 {
		text = strings.Repeat("x", pick(draw, 65, 66, 1000))
	}
	return api.Line{Text: text, Category: drawnName(draw), Count: drawnCount(draw), Price: drawnPrice(draw)}
}

// drawnLines is mostly one to twelve lines.
func drawnLines(draw *rand.Rand) []api.Line {
	n := 1 + draw.Intn(6)
	if draw.Intn(6) == 0 {
		n = draw.Intn(15)
	}
	var l []api.Line
	for range n {
		l = append(l, drawnLine(draw))
	}
	return l
}

// steepLines are lines of the table edges that are right but for their sums, which often go too far.
func steepLines(draw *rand.Rand) []api.Line {
	var l []api.Line
	for range 1 + draw.Intn(5) {
		price := pick(draw, far, most, -most, most/2, far/2, 1, -1, 100)
		if category := pick(draw, "a", "c", "full", "ten", "tenth"); category[0] == 't' {
			l = append(l, line(1, pick(draw, most/10, far/10, most/20, far/20, 1, -1), category))
		} else {
			l = append(l, line(1, price, category))
		}
	}
	return l
}

// drawnCall is what a Total is asked for: anything, or lines whose sums are steep.
func drawnCall(draw *rand.Rand) ([]api.Rate, api.Date, []api.Line) {
	if draw.Intn(4) == 0 {
		return edges(), now(), steepLines(draw)
	}
	return drawnTable(draw), drawnDay(draw), drawnLines(draw)
}

// drawnAmount is any, or near to an edge.
func drawnAmount(draw *rand.Rand) int {
	if draw.Intn(20) == 0 {
		return far
	}
	return pick(draw, far+1, -1, 0, 1, most, draw.Intn(1000)-500, int(draw.Uint64()))
}

// drawnTotal is one of which nothing need fit together.
func drawnTotal(draw *rand.Rand) api.Total {
	t := total(drawnAmount(draw), drawnAmount(draw), drawnAmount(draw))
	for range draw.Intn(5) {
		t.Parts = append(t.Parts, part(pick(draw, append(nameless(), named()...)...), drawnAmount(draw), drawnAmount(draw), drawnAmount(draw)))
	}
	return t
}
