package vat

import (
	"math"
	"math/rand"
	"slices"
	"strings"
	"testing"

	"impost/api"
	"impost/date"
	"impost/sign"
)

const (
	most = math.MaxInt
	far  = math.MinInt
)

func day(y, m, d int) api.Date { return api.Date{Y: y, M: m, D: d} }

func row(category string, y, m, d, bp int) api.Rate {
	return api.Rate{Category: category, From: day(y, m, d), Bp: bp}
}

// first and last are the days at the ends of the calendar.
func first() api.Date { return day(1, 1, 1) }
func last() api.Date  { return day(9999, 12, 31) }

// chapter is the table of the chapter's runs.
func chapter() []api.Rate {
	return []api.Rate{row("food", 2000, 1, 1, 700), row("food", 2020, 7, 1, 500), row("std", 2000, 1, 1, 1900)}
}

// rows is a right table of n rows, of three a category.
func rows(n int) []api.Rate {
	var l []api.Rate
	for i := range n {
		l = append(l, row("c"+string(rune('a'+i/3)), 2000+i%3, 1, 1, i))
	}
	return l
}

// roomy is l with spare room that has something in it.
func roomy(l []api.Rate) []api.Rate {
	out := append(make([]api.Rate, 0, len(l)+5), l...)
	for i := len(l); i < cap(out); i++ {
		out[:cap(out)][i] = row("spare", 1999, 9, 9, i)
	}
	return out
}

// whole is a copy of l with its spare room.
func whole(l []api.Rate) []api.Rate { return slices.Clone(l[:cap(l)]) }

// key is a text that has the order of rows: no name has a byte as low as the one behind it.
func key(r api.Rate) string { return r.Category + "\x00" + date.Show(r.From) }

// isRow is the chapter's sentence, all at once.
func isRow(r api.Rate) bool {
	return sign.Name(r.Category) && date.Days(r.From) >= 0 && r.Bp >= 0 && r.Bp <= 100000
}

// isTable is the chapter's sentence, asked of each pair by the keys.
func isTable(l []api.Rate) bool {
	for i, r := range l {
		for _, s := range l[i+1:] {
			if key(r) >= key(s) {
				return false
			}
		}
		if !isRow(r) {
			return false
		}
	}
	return len(l) <= 24
}

// found goes by the nearest day behind which d lies, whatever the order of l.
func found(l []api.Rate, category string, d api.Date) (int, bool) {
	bp, near := 0, -1
	for _, r := range l {
		if n := date.Days(r.From); r.Category == category && n <= date.Days(d) && n > near {
			bp, near = r.Bp, n
		}
	}
	return bp, near >= 0
}

// sorted is l with r, put in order as a whole.
func sorted(l []api.Rate, r api.Rate) []api.Rate {
	out := append(slices.Clone(l), r)
	slices.SortFunc(out, func(a, b api.Rate) int { return strings.Compare(key(a), key(b)) })
	return out
}

// strange are days that aren't right.
func strange() []api.Date {
	days := []api.Date{{}, day(0, 12, 31), day(10000, 1, 1), day(2000, 0, 1), day(2000, 13, 1), day(2000, 1, 0), day(2000, 1, 32), day(2021, 2, 29), day(1900, 2, 29), day(2000, 4, 31), day(-2000, 1, 1)}
	for _, n := range []int{far, far + 1, -1, 1<<32 + 1, most - 1, most} {
		days = append(days, day(n, 1, 1), day(2000, n, 1), day(2000, 1, n), day(n, n, n))
	}
	return days
}

// nameless are texts that are no names.
func nameless() []string {
	return []string{"", " ", "7a", "-a", ".a", "_a", "a b", "a\x00", "food\x00", "food ", " food", "a\xff", "\xff", "\u00d7", "a\u00f7", "a\u0663", "a/b", "a,b", strings.Repeat("a", 25), strings.Repeat("\u00fc", 12) + "a", strings.Repeat("a", 5000)}
}

// named are names, in the order of their bytes.
func named() []string {
	return []string{"A", "B", "Food", "Z", "a", "a-", "a-a", "a.", "a0", "a9", "aA", "a_", "aa", "aaa", strings.Repeat("a", 24), "ab", "a\u00e4", "b", "food", "foods", "z", "\u00c0", "\u00c4", "\u00d6", "\u00d8", "\u00e4", "\u00fc", "\u0100", "\u024f"}
}

// wrongTables are lists that are no tables, each for one reason.
func wrongTables() map[string][]api.Rate {
	l := chapter()
	tables := map[string][]api.Rate{
		"the days the other way round":       {l[1], l[0], l[2]},
		"the categories the other way round": {l[2], l[0], l[1]},
		"the last two the other way round":   {l[0], l[2], l[1]},
		"the first one twice":                {l[0], l[0], l[1], l[2]},
		"the last one twice":                 {l[0], l[1], l[2], l[2]},
		"twice, with another rate":           {l[0], row("food", 2000, 1, 1, 701), l[2]},
		"twice, far from each other":         {l[0], l[1], l[2], l[0]},
		"one row too many":                   rows(25),
		"many rows too many":                 rows(70),
		"too many, and out of order":         append(rows(24), l...),
	}
	for i, bad := range []api.Rate{{}, row("7a", 2000, 1, 1, 1), row("food", 2001, 2, 29, 1), row("food", 2000, 1, 1, -1), row("food", 2000, 1, 1, 100001)} {
		for at := range 3 {
			t := chapter()
			t[at] = bad
			tables["row "+string(rune('0'+at))+" has fault "+string(rune('0'+i))] = t
		}
	}
	return tables
}

// probes are days about those from which the rows of l hold, and the ends of the calendar.
func probes(l []api.Rate) []api.Date {
	days := []api.Date{first(), last(), day(2015, 1, 1)}
	for _, r := range l {
		for off := -1; off <= 1; off++ {
			if d, ok := date.Of(date.Days(r.From) + off); ok {
				days = append(days, d)
			}
		}
	}
	return days
}

// drawnRow is one of few categories and days, so that rows meet.
func drawnRow(draw *rand.Rand) api.Rate {
	names := []string{"a", "A", "aa", "ab", "b", "food", "foods", "\u00fc"}
	days := []api.Date{first(), day(1, 1, 2), day(1999, 12, 31), day(2000, 1, 1), day(2000, 2, 1), day(2000, 1, 31), day(2001, 1, 1), day(9999, 12, 30), last()}
	return api.Rate{Category: names[draw.Intn(len(names))], From: days[draw.Intn(len(days))], Bp: draw.Intn(api.MaxBp + 1)}
}

// drawnTable is a right one.
func drawnTable(draw *rand.Rand) []api.Rate {
	var l []api.Rate
	for range draw.Intn(40) {
		r := drawnRow(draw)
		if len(l) < 24 && !slices.ContainsFunc(l, func(o api.Rate) bool { return key(o) == key(r) }) {
			l = sorted(l, r)
		}
	}
	return l
}

func TestRuns(t *testing.T) {
	for _, r := range []struct {
		category string
		d        api.Date
		bp       int
		is       bool
	}{{"food", day(2020, 6, 30), 700, true}, {"food", day(2020, 7, 1), 500, true}, {"food", day(1999, 12, 31), 0, false}, {"rent", day(2020, 1, 1), 0, false}} {
		if bp, is := Find(chapter(), r.category, r.d); bp != r.bp || is != r.is {
			t.Errorf("Find(%s, %v) = %d, %v", r.category, r.d, bp, is)
		}
	}
	l, e := Put(chapter(), row("food", 2010, 1, 1, 600))
	if bp, is := Find(l, "food", day(2015, 1, 1)); bp != 600 || !is || e != api.OK {
		t.Errorf("behind Put: %d, %v, %d", bp, is, e)
	}
	if l, e := Put(chapter(), row("food", 2000, 1, 1, 1)); l != nil || e != api.ErrTaken {
		t.Errorf("Put of a row that is there: %v, %d", l, e)
	}
	if l, e := Put(chapter(), row("7a", 2000, 1, 1, 1)); l != nil || e != api.ErrName {
		t.Errorf("Put of no name: %v, %d", l, e)
	}
}

// P7.1

func TestRowByItsRate(t *testing.T) {
	for bp, want := range map[int]api.Errno{0: api.OK, 1: api.OK, 1900: api.OK, api.MaxBp - 1: api.OK, api.MaxBp: api.OK, -1: api.ErrRate, -1900: api.ErrRate, api.MaxBp + 1: api.ErrRate, 1 << 32: api.ErrRate, 1<<32 + 1900: api.ErrRate, far: api.ErrRate, far + 1: api.ErrRate, most: api.ErrRate} {
		if e := Row(row("food", 2000, 1, 1, bp)); e != want {
			t.Errorf("Row at %d: %d", bp, e)
		}
	}
}

func TestRowByItsName(t *testing.T) {
	for _, s := range named() {
		if e := Row(row(s, 2000, 1, 1, 1)); e != api.OK {
			t.Errorf("Row of %q: %d", s, e)
		}
	}
	for _, s := range nameless() {
		if e := Row(row(s, 2000, 1, 1, 1)); e != api.ErrName {
			t.Errorf("Row of %q: %d", s, e)
		}
	}
}

func TestRowByItsDay(t *testing.T) {
	for _, d := range []api.Date{first(), last(), day(2000, 2, 29), day(2024, 2, 29), day(2026, 11, 30)} {
		if e := Row(api.Rate{Category: "food", From: d, Bp: 1}); e != api.OK {
			t.Errorf("Row of %v: %d", d, e)
		}
	}
	for _, d := range strange() {
		if e := Row(api.Rate{Category: "food", From: d, Bp: 1}); e != api.ErrDate {
			t.Errorf("Row of %v: %d", d, e)
		}
	}
}

func TestRowsFirstFault(t *testing.T) {
	for _, bp := range []int{-1, 0, api.MaxBp, api.MaxBp + 1, far, most} {
		for _, d := range append(strange(), day(2000, 1, 1)) {
			for _, s := range append(nameless(), "food") {
				want := api.OK
				if s != "food" {
					want = api.ErrName
				} else if d != day(2000, 1, 1) {
					want = api.ErrDate
				} else if bp < 0 || bp > api.MaxBp {
					want = api.ErrRate
				}
				if e := Row(api.Rate{Category: s, From: d, Bp: bp}); e != want {
					t.Fatalf("Row(%q, %v, %d) = %d, not %d", s, d, bp, e, want)
				}
			}
		}
	}
	if e := Row(api.Rate{}); e != api.ErrName {
		t.Errorf("Row of zero: %d", e)
	}
}

func TestRightByLength(t *testing.T) {
	if !Right(nil) || !Right([]api.Rate{}) {
		t.Error("no row")
	}
	for n := range 80 {
		if Right(rows(n)) != (n <= api.MaxRates) {
			t.Errorf("%d rows: %v", n, n > api.MaxRates)
		}
	}
	if api.MaxRates != 24 {
		t.Error("the limit")
	}
}

func TestRightOfPairs(t *testing.T) {
	for i, r := range []struct {
		a, b api.Rate
		want bool
	}{
		{row("food", 2000, 1, 1, 1), row("food", 2000, 1, 1, 1), false},
		{row("food", 2000, 1, 1, 1), row("food", 2000, 1, 1, 2), false},
		{row("food", 2000, 1, 1, 2), row("food", 2000, 1, 1, 1), false},
		{row("food", 2000, 1, 1, 2), row("food", 2000, 1, 2, 2), true},
		{row("food", 2000, 1, 1, 2), row("food", 2000, 1, 2, 1), true},
		{row("food", 2000, 1, 31, 1), row("food", 2000, 2, 1, 1), true},
		{row("food", 2000, 2, 28, 1), row("food", 2000, 2, 29, 1), true},
		{row("food", 2000, 12, 31, 1), row("food", 2001, 1, 1, 1), true},
		{row("food", 1, 1, 1, 1), row("food", 9999, 12, 31, 1), true},
		{row("food", 999, 1, 1, 1), row("food", 1000, 1, 1, 1), true},
		{row("food", 2000, 9, 9, 1), row("food", 2000, 10, 9, 1), true},
		{row("food", 2000, 1, 1, 1), row("foods", 2000, 1, 1, 1), true},
		{row("food", 2001, 1, 1, 1), row("foods", 2000, 1, 1, 1), true},
		{row("Food", 2000, 1, 1, 1), row("food", 2000, 1, 1, 1), true},
		{row("Z", 2000, 1, 1, 1), row("a", 2000, 1, 1, 1), true},
		{row("z", 2000, 1, 1, 1), row("\u00c0", 2000, 1, 1, 1), true},
		{row("\u00c4", 2000, 1, 1, 1), row("\u00e4", 1999, 1, 1, 1), true},
		{row("b", 2001, 1, 1, 1), row("c", 2000, 1, 1, 0), true},
	} {
		if Right([]api.Rate{r.a, r.b}) != r.want {
			t.Errorf("%d: %v", i, !r.want)
		}
		if Right([]api.Rate{r.b, r.a}) {
			t.Errorf("%d, the other way round", i)
		}
	}
}

func TestRightOfNamesByTheirBytes(t *testing.T) {
	for i, a := range named() {
		for j, b := range named() {
			if Right([]api.Rate{row(a, 2001, 1, 1, 1), row(b, 2000, 1, 1, 1)}) != (i < j) {
				t.Errorf("%q and %q: %v", a, b, i >= j)
			}
		}
	}
}

func TestRightOfWrongTables(t *testing.T) {
	for why, l := range wrongTables() {
		if Right(l) {
			t.Error(why)
		}
	}
	for _, d := range strange() {
		if Right([]api.Rate{{Category: "a", From: d}}) {
			t.Errorf("a row from %v", d)
		}
	}
	for _, s := range nameless() {
		if Right([]api.Rate{row(s, 2000, 1, 1, 1)}) {
			t.Errorf("a row of %q", s)
		}
	}
}

// TestRightOfEachFault spoils one row of a full table at a time.
func TestRightOfEachFault(t *testing.T) {
	for at := range api.MaxRates {
		for i, spoil := range []func(r *api.Rate){
			func(r *api.Rate) { r.Category += " " }, func(r *api.Rate) { r.Bp = -1 }, func(r *api.Rate) { r.Bp = api.MaxBp + 1 }, func(r *api.Rate) { r.From.D = 32 },
		} {
			l := rows(api.MaxRates)
			spoil(&l[at])
			if Right(l) {
				t.Errorf("fault %d of row %d", i, at)
			}
		}
	}
}

func TestRightOfDrawn(t *testing.T) {
	draw := rand.New(rand.NewSource(71))
	for range 5000 {
		l := drawnTable(draw)
		for range draw.Intn(3) {
			if len(l) > 0 {
				l[draw.Intn(len(l))] = drawnRow(draw)
			}
		}
		if Right(l) != isTable(l) {
			t.Fatalf("Right(%v) = %v", l, Right(l))
		}
	}
}

// P7.2

func TestPutPlaces(t *testing.T) {
	for i, r := range []struct {
		l  []api.Rate
		r  api.Rate
		at int
	}{
		{nil, row("food", 2000, 1, 1, 1), 0},
		{[]api.Rate{}, row("food", 1, 1, 1, 0), 0},
		{chapter()[:1], row("food", 1999, 12, 31, 1), 0},
		{chapter()[:1], row("food", 2000, 1, 2, 1), 1},
		{chapter(), row("a", 2026, 1, 1, 1), 0},
		{chapter(), row("Std", 2026, 1, 1, 1), 0},
		{chapter(), row("foo", 2026, 1, 1, 1), 0},
		{chapter(), row("food", 1, 1, 1, 1), 0},
		{chapter(), row("food", 2000, 1, 2, 1), 1},
		{chapter(), row("food", 2010, 1, 1, 600), 1},
		{chapter(), row("food", 2020, 6, 30, 600), 1},
		{chapter(), row("food", 2020, 7, 2, api.MaxBp), 2},
		{chapter(), row("food", 9999, 12, 31, 1), 2},
		{chapter(), row("foods", 1, 1, 1, 1), 2},
		{chapter(), row("rent", 2000, 1, 1, 1900), 2},
		{chapter(), row("std", 1999, 1, 1, 1900), 2},
		{chapter(), row("std", 2000, 1, 2, 1900), 3},
		{chapter(), row("stda", 1, 1, 1, 0), 3},
		{chapter(), row("\u00c4", 1, 1, 1, 0), 3},
		{rows(23), row("a", 2000, 1, 1, 1), 0},
		{rows(23), row("cd", 2000, 1, 2, 1), 10},
		{rows(23), row("z", 2000, 1, 1, 1), 23},
	} {
		got, e := Put(r.l, r.r)
		if want := slices.Insert(slices.Clone(r.l), r.at, r.r); e != api.OK || !slices.Equal(got, want) {
			t.Errorf("%d: %v, %d, not %v", i, got, e, want)
		}
	}
}

func TestPutOfTakenRows(t *testing.T) {
	for _, n := range []int{1, 2, 3, 12, 23, api.MaxRates} {
		for _, r := range rows(n) {
			for _, bp := range []int{r.Bp, r.Bp + 1, 0, api.MaxBp} {
				if got, e := Put(rows(n), api.Rate{Category: r.Category, From: r.From, Bp: bp}); got != nil || e != api.ErrTaken {
					t.Errorf("%s of %d rows at %d: %v, %d", key(r), n, bp, got, e)
				}
			}
		}
	}
}

func TestPutIntoAFullTable(t *testing.T) {
	for _, r := range []api.Rate{row("a", 2000, 1, 1, 1), row("ca", 1999, 1, 1, 1), row("cd", 2000, 1, 2, 1), row("z", 2000, 1, 1, 1)} {
		if got, e := Put(rows(api.MaxRates), r); got != nil || e != api.ErrLong {
			t.Errorf("%v: %v, %d", r, got, e)
		}
		if got, e := Put(rows(api.MaxRates-1), r); len(got) != api.MaxRates || e != api.OK {
			t.Errorf("%v into one less: %v, %d", r, got, e)
		}
	}
}

func TestPutsFirstFault(t *testing.T) {
	full := rows(api.MaxRates)
	wrong := []api.Rate{full[1], full[0]}
	for i, r := range []struct {
		l    []api.Rate
		r    api.Rate
		want api.Errno
	}{
		{wrong, row("7a", 0, 0, 0, -1), api.ErrArg}, {wrong, row("a", 0, 0, 0, -1), api.ErrArg}, {wrong, row("a", 2000, 1, 1, -1), api.ErrArg}, {wrong, full[0], api.ErrArg}, {wrong, full[9], api.ErrArg},
		{rows(25), row("7a", 0, 0, 0, -1), api.ErrArg}, {rows(25), full[0], api.ErrArg}, {rows(25), row("z", 2000, 1, 1, 1), api.ErrArg},
		{full, row("7a", 0, 0, 0, -1), api.ErrName}, {full, row("ca", 0, 0, 0, -1), api.ErrDate}, {full, row("ca", 2000, 1, 1, -1), api.ErrRate}, {full, row("ca", 2000, 1, 1, api.MaxBp+1), api.ErrRate}, {full, row("z", 2000, 1, 1, most), api.ErrRate},
		{full, row("ca", 2000, 1, 1, 0), api.ErrTaken}, {full, full[23], api.ErrTaken}, {full, row("ca", 2000, 1, 2, 0), api.ErrLong},
		{full[:23], full[22], api.ErrTaken}, {full[:23], full[23], api.OK},
		{nil, row("7a", 0, 0, 0, -1), api.ErrName}, {nil, row("a", 0, 0, 0, -1), api.ErrDate}, {nil, row("a", 1, 1, 1, -1), api.ErrRate}, {nil, row("a", 1, 1, 1, far), api.ErrRate}, {nil, api.Rate{}, api.ErrName},
	} {
		if got, e := Put(r.l, r.r); e != r.want || e != api.OK && got != nil {
			t.Errorf("%d: %v, %d, not %d", i, got, e, r.want)
		}
	}
}

func TestPutOfWrongThings(t *testing.T) {
	for why, l := range wrongTables() {
		if got, e := Put(l, row("rent", 2000, 1, 1, 1)); got != nil || e != api.ErrArg {
			t.Errorf("%s: %v, %d", why, got, e)
		}
	}
	for _, s := range nameless() {
		if got, e := Put(chapter(), row(s, 2000, 1, 1, 1)); got != nil || e != api.ErrName {
			t.Errorf("%q: %v, %d", s, got, e)
		}
	}
	for _, d := range strange() {
		if got, e := Put(chapter(), api.Rate{Category: "food", From: d}); got != nil || e != api.ErrDate {
			t.Errorf("%v: %v, %d", d, got, e)
		}
	}
}

// TestPutLeavesWhatItIsGiven goes over taken, refused and put rows: the list and its spare room stay (R2).
func TestPutLeavesWhatItIsGiven(t *testing.T) {
	wrong := chapter()
	slices.Reverse(wrong)
	for i, l := range [][]api.Rate{{}, chapter(), rows(23), rows(24), rows(25), wrong} {
		l = roomy(l)
		was := whole(l)
		for _, r := range []api.Rate{row("a", 2000, 1, 1, 1), row("food", 2010, 1, 1, 1), row("cd", 2000, 1, 2, 1), row("z", 2000, 1, 1, 1), row("7a", 2000, 1, 1, 1), row("food", 2000, 1, 1, 1)} {
			Put(l, r)
			Row(r)
			Right(l)
			Find(l, r.Category, r.From)
			if !slices.Equal(whole(l), was) {
				t.Fatalf("list %d was changed by %v", i, r)
			}
		}
	}
}

// TestPutAnswersNewMemory writes over all of the answer, its spare room too, and over all of what was given.
func TestPutAnswersNewMemory(t *testing.T) {
	for i, l := range [][]api.Rate{{}, chapter(), rows(23)} {
		for _, r := range []api.Rate{row("a", 2000, 1, 1, 1), row("food", 2010, 1, 1, 1), row("z", 2000, 1, 1, 1)} {
			l := roomy(l)
			was := whole(l)
			got, e := Put(l, r)
			other, _ := Put(l, r)
			want := slices.Clone(other)
			clear(got[:cap(got)])
			if e != api.OK || !slices.Equal(whole(l), was) || !slices.Equal(other, want) {
				t.Fatalf("list %d shares memory with the answer", i)
			}
			clear(l[:cap(l)])
			if !slices.Equal(other, want) {
				t.Fatalf("the answer shares memory with list %d", i)
			}
		}
	}
}

// P7.3

func TestFindAboutEachDay(t *testing.T) {
	for i, r := range []struct {
		category string
		d        api.Date
		bp       int
		is       bool
	}{
		{"food", first(), 0, false}, {"food", day(1999, 12, 31), 0, false}, {"food", day(2000, 1, 1), 700, true}, {"food", day(2000, 1, 2), 700, true},
		{"food", day(2019, 12, 31), 700, true}, {"food", day(2020, 6, 30), 700, true}, {"food", day(2020, 7, 1), 500, true}, {"food", day(2020, 7, 2), 500, true}, {"food", last(), 500, true},
		{"std", first(), 0, false}, {"std", day(1999, 12, 31), 0, false}, {"std", day(2000, 1, 1), 1900, true}, {"std", last(), 1900, true},
		{"rent", first(), 0, false}, {"rent", day(2020, 1, 1), 0, false}, {"rent", last(), 0, false}, {"foo", last(), 0, false}, {"foods", last(), 0, false}, {"Food", last(), 0, false}, {"STD", last(), 0, false},
	} {
		if bp, is := Find(chapter(), r.category, r.d); bp != r.bp || is != r.is {
			t.Errorf("%d: %d, %v", i, bp, is)
		}
	}
}

func TestFindAtTheEnds(t *testing.T) {
	l := []api.Rate{row("a", 1, 1, 1, 0), row("a", 9999, 12, 31, api.MaxBp)}
	for d, want := range map[api.Date]int{first(): 0, day(1, 1, 2): 0, day(9999, 12, 30): 0, last(): api.MaxBp} {
		if bp, is := Find(l, "a", d); bp != want || !is {
			t.Errorf("%v: %d, %v", d, bp, is)
		}
	}
	for _, l := range [][]api.Rate{nil, {}} {
		for _, d := range []api.Date{first(), last()} {
			if bp, is := Find(l, "a", d); bp != 0 || is {
				t.Errorf("no rows: %d, %v", bp, is)
			}
		}
	}
}

// TestFindTellsNamesApart has a row for each of many names that are near to one another.
func TestFindTellsNamesApart(t *testing.T) {
	names := named()[4:28]
	var l []api.Rate
	for i, s := range names {
		l = append(l, row(s, 2000, 1, 1, i+1))
	}
	for _, s := range named() {
		at := slices.Index(names, s) + 1
		if bp, is := Find(l, s, last()); bp != at || is != (at > 0) {
			t.Errorf("%q: %d, %v", s, bp, is)
		}
	}
}

func TestFindOfWrongThings(t *testing.T) {
	for why, l := range wrongTables() {
		for _, r := range append(l, chapter()...) {
			if bp, is := Find(l, r.Category, last()); bp != 0 || is {
				t.Errorf("%s: %d, %v", why, bp, is)
			}
		}
	}
	for _, d := range strange() {
		if bp, is := Find(chapter(), "food", d); bp != 0 || is {
			t.Errorf("%v: %d, %v", d, bp, is)
		}
	}
	for _, s := range nameless() {
		if bp, is := Find(chapter(), s, last()); bp != 0 || is {
			t.Errorf("%q: %d, %v", s, bp, is)
		}
	}
	if bp, is := Find([]api.Rate{{}}, "", api.Date{}); bp != 0 || is {
		t.Errorf("zero: %d, %v", bp, is)
	}
}

// TestSpareRoomIsNotRead has tables whose spare room, were it read, would change what is found or make them wrong (R5).
func TestSpareRoomIsNotRead(t *testing.T) {
	l := append(chapter(), row("std", 2001, 1, 1, 1), api.Rate{})[:3]
	if !Right(l) {
		t.Error("Right")
	}
	if bp, is := Find(l, "std", last()); bp != 1900 || !is {
		t.Errorf("Find: %d, %v", bp, is)
	}
	if got, e := Put(l, row("std", 2001, 1, 1, 2)); len(got) != 4 || e != api.OK {
		t.Errorf("Put: %v, %d", got, e)
	}
}

func TestFindOfDrawn(t *testing.T) {
	draw := rand.New(rand.NewSource(73))
	for range 5000 {
		l := drawnTable(draw)
		for range 20 {
			r := drawnRow(draw)
			bp, is := Find(l, r.Category, r.From)
			if wantBp, want := found(l, r.Category, r.From); bp != wantBp || is != want {
				t.Fatalf("Find(%v, %q, %v) = %d, %v", l, r.Category, r.From, bp, is)
			}
		}
	}
}

// P7.4

// follows holds Put of r into l against the chapter's sentence, on each day about a row's.
func follows(t *testing.T, l []api.Rate, r api.Rate) {
	t.Helper()
	got, e := Put(l, r)
	if e != api.OK || !Right(got) || !isTable(got) || len(got) != len(l)+1 || !slices.Equal(got, sorted(l, r)) {
		t.Fatalf("Put(%v, %v) = %v, %d", l, r, got, e)
	}
	from, next := date.Days(r.From), most
	for _, o := range l {
		if n := date.Days(o.From); o.Category == r.Category && n > from {
			next = min(next, n)
		}
	}
	for _, o := range append(got, row("rent", 2000, 1, 1, 0)) {
		for _, d := range probes(got) {
			wantBp, want := Find(l, o.Category, d)
			if n := date.Days(d); o.Category == r.Category && from <= n && n < next {
				wantBp, want = r.Bp, true
			}
			if bp, is := Find(got, o.Category, d); bp != wantBp || is != want {
				t.Fatalf("behind Put(%v, %v): Find(%q, %v) = %d, %v", l, r, o.Category, d, bp, is)
			}
		}
	}
}

func TestWhatFollowsPut(t *testing.T) {
	for _, r := range []api.Rate{row("a", 1, 1, 1, 0), row("food", 1, 1, 1, 1), row("food", 1999, 12, 31, 1), row("food", 2000, 1, 2, 1), row("food", 2020, 6, 30, 1), row("food", 2020, 7, 2, 1), row("food", 9999, 12, 31, 1), row("Food", 2000, 1, 1, 1), row("foods", 2000, 1, 1, 1), row("std", 1, 1, 1, 0), row("std", 9999, 12, 31, api.MaxBp), row("z", 2000, 1, 1, 1)} {
		follows(t, nil, r)
		follows(t, chapter(), r)
		if !slices.Contains(rows(23), r) {
			follows(t, rows(23), r)
		}
	}
}

func TestWhatFollowsPutOfDrawn(t *testing.T) {
	draw := rand.New(rand.NewSource(74))
	for range 1000 {
		l, r := drawnTable(draw), drawnRow(draw)
		there := slices.ContainsFunc(l, func(o api.Rate) bool { return key(o) == key(r) })
		switch got, e := Put(l, r); {
		case there:
			if got != nil || e != api.ErrTaken {
				t.Fatalf("Put(%v, %v) = %v, %d", l, r, got, e)
			}
		case len(l) == api.MaxRates:
			if got != nil || e != api.ErrLong {
				t.Fatalf("Put(%v, %v) = %v, %d", l, r, got, e)
			}
		default:
			follows(t, l, r)
		}
	}
}

func TestTheOrderOfPutsDoesNotMatter(t *testing.T) {
	draw := rand.New(rand.NewSource(75))
	for _, want := range [][]api.Rate{chapter(), rows(api.MaxRates), drawnTable(draw), drawnTable(draw)} {
		for range 200 {
			var l []api.Rate
			for _, at := range draw.Perm(len(want)) {
				next, e := Put(l, want[at])
				if e != api.OK {
					t.Fatalf("Put(%v, %v): %d", l, want[at], e)
				}
				l = next
			}
			if !slices.Equal(l, want) {
				t.Fatalf("%v, not %v", l, want)
			}
		}
	}
}
