package invoice

import (
	"math/rand"
	"slices"
	"strings"
	"testing"

	"impost/api"
)

func TestRuns(t *testing.T) {
	got, e := Total(chapter(), now(), []api.Line{line(3, 100, "food"), line(1, 50, "std")})
	if e != api.OK || !same(got, total(350, 25, 375, part("food", 500, 300, 15), part("std", 1900, 50, 10))) {
		t.Error(got, e)
	}
	for i, r := range []struct {
		lines []api.Line
		want  api.Errno
	}{
		{nil, api.ErrArg}, {[]api.Line{line(1, 1, "rent")}, api.ErrRate}, {[]api.Line{line(0, 1, "food")}, api.ErrArg}, {[]api.Line{line(2, 1<<62, "food")}, api.ErrOver},
	} {
		if got, e := Total(chapter(), now(), r.lines); e != r.want || !same(got, api.Total{}) {
			t.Errorf("run %d: %v, %d", i, got, e)
		}
	}
}

// P11.1

// told is a reckoning that is not refused.
type told struct {
	lines []api.Line
	want  api.Total
}

func hold(t *testing.T, table []api.Rate, d api.Date, cases []told) {
	t.Helper()
	for i, c := range cases {
		if got, e := Total(table, d, c.lines); e != api.OK || !same(got, c.want) {
			t.Errorf("%d: %v, %d, not %v", i, got, e, c.want)
		}
	}
}

func TestTotal(t *testing.T) {
	hold(t, chapter(), now(), []told{
		{[]api.Line{line(1, 100, "std")}, total(100, 19, 119, part("std", 1900, 100, 19))},
		{[]api.Line{line(7, 3, "food")}, total(21, 1, 22, part("food", 500, 21, 1))},
		{[]api.Line{line(1, 0, "food")}, total(0, 0, 0, part("food", 500, 0, 0))},
		{[]api.Line{line(1, -100, "std")}, total(-100, -19, -119, part("std", 1900, -100, -19))},
		{[]api.Line{line(3, 100, "food"), line(1, -200, "food"), line(2, 5, "food")}, total(110, 6, 116, part("food", 500, 110, 6))},
		{[]api.Line{line(1, 50, "std"), line(3, 100, "food")}, total(350, 25, 375, part("food", 500, 300, 15), part("std", 1900, 50, 10))},
		{[]api.Line{line(1, 50, "std"), line(3, 100, "food"), line(1, 50, "std"), line(1, 1, "food")}, total(401, 34, 435, part("food", 500, 301, 15), part("std", 1900, 100, 19))},
		{[]api.Line{line(1, 100, "food"), line(1, -100, "std")}, total(0, -14, -14, part("food", 500, 100, 5), part("std", 1900, -100, -19))},
	})
}

// TestTaxIsOfTheWholePart has lines whose shares are rounded away, or up, each by itself.
func TestTaxIsOfTheWholePart(t *testing.T) {
	hold(t, chapter(), now(), []told{
		{[]api.Line{line(1, 9, "food"), line(1, 9, "food"), line(1, 9, "food")}, total(27, 1, 28, part("food", 500, 27, 1))},
		{[]api.Line{line(1, 10, "food"), line(1, 10, "food"), line(1, 10, "food")}, total(30, 2, 32, part("food", 500, 30, 2))},
		{[]api.Line{line(1, 10, "food"), line(1, 10, "food")}, total(20, 1, 21, part("food", 500, 20, 1))},
		{[]api.Line{line(1, 10, "food"), line(1, -10, "food")}, total(0, 0, 0, part("food", 500, 0, 0))},
		{[]api.Line{line(1, -10, "food")}, total(-10, -1, -11, part("food", 500, -10, -1))},
	})
}

// TestTaxOfPartsOfOneRate: two categories are two parts, each rounded by itself, though their rates are the same.
func TestTaxOfPartsOfOneRate(t *testing.T) {
	table := []api.Rate{row("a", 2000, 1, 1, 500), row("b", 2000, 1, 1, 500)}
	hold(t, table, now(), []told{
		{[]api.Line{line(1, 10, "b"), line(1, 10, "a")}, total(20, 2, 22, part("a", 500, 10, 1), part("b", 500, 10, 1))},
		{[]api.Line{line(1, 9, "b"), line(1, 9, "a")}, total(18, 0, 18, part("a", 500, 9, 0), part("b", 500, 9, 0))},
	})
}

func TestRateOfNone(t *testing.T) {
	hold(t, edges(), now(), []told{
		{[]api.Line{line(5, 100, "a")}, total(500, 0, 500, part("a", 0, 500, 0))},
		{[]api.Line{line(1, far, "a")}, total(far, 0, far, part("a", 0, far, 0))},
		{[]api.Line{line(1, 100, "ten"), line(1, 7, "a")}, total(107, 1000, 1107, part("a", 0, 7, 0), part("ten", 100000, 100, 1000))},
	})
}

// TestSumsOfNothing: a part whose lines come to 0 is there all the same.
func TestSumsOfNothing(t *testing.T) {
	hold(t, chapter(), now(), []told{
		{[]api.Line{line(4, 25, "std"), line(1, -100, "std")}, total(0, 0, 0, part("std", 1900, 0, 0))},
		{[]api.Line{line(4, 25, "std"), line(1, -100, "std"), line(1, 100, "food")}, total(100, 5, 105, part("food", 500, 100, 5), part("std", 1900, 0, 0))},
		{[]api.Line{line(meg, 0, "std"), line(1, 0, "food")}, total(0, 0, 0, part("food", 500, 0, 0), part("std", 1900, 0, 0))},
	})
}

// TestDaysOfRates goes over the days on which a rate begins, the one ahead and the one behind.
func TestDaysOfRates(t *testing.T) {
	for i, c := range []struct {
		d    api.Date
		bp   int
		want api.Errno
	}{
		{day(1, 1, 1), 0, api.ErrRate}, {day(1999, 12, 31), 0, api.ErrRate}, {day(2000, 1, 1), 700, api.OK}, {day(2000, 1, 2), 700, api.OK}, {day(2020, 6, 30), 700, api.OK}, {day(2020, 7, 1), 500, api.OK}, {day(2020, 7, 2), 500, api.OK}, {day(2021, 6, 30), 500, api.OK}, {day(9999, 12, 31), 500, api.OK},
	} {
		got, e := Total(chapter(), c.d, []api.Line{line(1, 100, "food")})
		want := api.Total{}
		if c.want == api.OK {
			want = total(100, c.bp/100, 100+c.bp/100, part("food", c.bp, 100, c.bp/100))
		}
		if e != c.want || !same(got, want) {
			t.Errorf("%d: %v, %d, not %v", i, got, e, want)
		}
	}
}

// TestNotYet: one line's rate has begun, another's hasn't.
func TestNotYet(t *testing.T) {
	table := []api.Rate{row("a", 2000, 1, 1, 100), row("b", 2021, 1, 2, 100)}
	both := []api.Line{line(1, 1, "a"), line(1, 1, "b")}
	if got, e := Total(table, now(), both); e != api.ErrRate || !same(got, api.Total{}) {
		t.Error(got, e)
	}
	if _, e := Total(table, day(2021, 1, 2), both); e != api.OK {
		t.Error(e)
	}
}

func TestCategories(t *testing.T) {
	for _, s := range nameless() {
		if got, e := Total(chapter(), now(), []api.Line{line(1, 1, s)}); e != api.ErrName || !same(got, api.Total{}) {
			t.Errorf("%q: %v, %d", s, got, e)
		}
	}
	for _, s := range []string{"rent", "foo", "foods", "Food", "FOOD", "st", "stds", "a", strings.Repeat("a", 24), "\u00fc"} {
		if got, e := Total(chapter(), now(), []api.Line{line(1, 1, s)}); e != api.ErrRate || !same(got, api.Total{}) {
			t.Errorf("%q: %v, %d", s, got, e)
		}
	}
}

// TestPartsRise holds each pair of names against each other, in both orders.
func TestPartsRise(t *testing.T) {
	var table []api.Rate
	for i, s := range named() {
		table = append(table, row(s, 2000, 1, 1, i*100))
	}
	for i, a := range named() {
		for j, b := range named() {
			got, e := Total(table, now(), []api.Line{line(1, 100, a), line(2, 100, b)})
			first, second := part(a, i*100, 100, i), part(b, j*100, 200, 2*j)
			want := []api.Part{first, second}
			if i > j {
				want = []api.Part{second, first}
			}
			if i == j {
				want = []api.Part{part(a, i*100, 300, 3*i)}
			}
			if e != api.OK || !slices.Equal(got.Parts, want) {
				t.Errorf("%q, %q: %v, %d", a, b, got, e)
			}
		}
	}
}

// TestPartsOfManyCategories draws twelve of 24 categories, in any order.
func TestPartsOfManyCategories(t *testing.T) {
	draw := rand.New(rand.NewSource(111))
	table := many(24)
	for range 500 {
		at := draw.Perm(24)[:twelve]
		var lines []api.Line
		for _, i := range at {
			lines = append(lines, line(1, 100*(i+1), table[i].Category))
		}
		slices.Sort(at)
		var want []api.Part
		for _, i := range at {
			want = append(want, part(table[i].Category, i*100, 100*(i+1), i*(i+1)))
		}
		if got, e := Total(table, now(), lines); e != api.OK || !slices.Equal(got.Parts, want) {
			t.Fatalf("%v: %v, %d", lines, got, e)
		}
	}
}

func TestNumberOfLines(t *testing.T) {
	for n := range 40 {
		got, e := Total(chapter(), now(), slices.Repeat([]api.Line{line(1, 100, "std")}, n))
		want, why := total(100*n, 19*n, 119*n, part("std", 1900, 100*n, 19*n)), api.OK
		if n == 0 {
			want, why = api.Total{}, api.ErrArg
		} else if n > 12 {
			want, why = api.Total{}, api.ErrLong
		}
		if e != why || !same(got, want) {
			t.Errorf("%d lines: %v, %d", n, got, e)
		}
	}
	if got, e := Total(chapter(), now(), []api.Line{}); e != api.ErrArg || !same(got, api.Total{}) {
		t.Error(got, e)
	}
}

// TestTexts: the bound is of bytes, not of runes, and any bytes will do.
func TestTexts(t *testing.T) {
	for n := range 200 {
		for _, s := range []string{"x", "\xff", "\x00", "\u00fc", "\u20ac"} {
			l := line(1, 100, "std")
			l.Text = strings.Repeat(s, n)
			want := api.OK
			if n*len(s) > 64 {
				want = api.ErrLong
			}
			for _, lines := range [][]api.Line{{l}, {line(1, 100, "std"), l}, {l, line(1, 100, "std")}} {
				if got, e := Total(chapter(), now(), lines); e != want || (e == api.OK) == same(got, api.Total{}) {
					t.Errorf("%d times %q: %v, %d", n, s, got, e)
				}
			}
		}
	}
}

func TestCounts(t *testing.T) {
	for _, c := range []struct {
		n    int
		want api.Errno
	}{
		{far, api.ErrArg}, {far + 1, api.ErrArg}, {-meg, api.ErrArg}, {-2, api.ErrArg}, {-1, api.ErrArg}, {0, api.ErrArg}, {1, api.OK}, {2, api.OK}, {1048575, api.OK}, {1048576, api.OK}, {1048577, api.ErrArg}, {1<<32 + 1, api.ErrArg}, {most - 1, api.ErrArg}, {most, api.ErrArg},
	} {
		for _, price := range []int{0, 1, -1, 10000} {
			got, e := Total(edges(), now(), []api.Line{line(c.n, price, "a")})
			want := api.Total{}
			if c.want == api.OK {
				want = total(c.n*price, 0, c.n*price, part("a", 0, c.n*price, 0))
			}
			if e != c.want || !same(got, want) {
				t.Errorf("%d times %d: %v, %d", c.n, price, got, e)
			}
		}
	}
}

func TestTables(t *testing.T) {
	for i, table := range wrongTables() {
		for _, category := range []string{"std", "food", "ca"} {
			if got, e := Total(table, now(), []api.Line{line(1, 1, category)}); e != api.ErrArg || !same(got, api.Total{}) {
				t.Errorf("%d: %v, %d", i, got, e)
			}
		}
	}
	for _, table := range [][]api.Rate{nil, {}} {
		if got, e := Total(table, now(), []api.Line{line(1, 1, "std")}); e != api.ErrRate || !same(got, api.Total{}) {
			t.Error(got, e)
		}
	}
	if got, e := Total(many(24), now(), []api.Line{line(1, 1, "ca"), line(1, 1, "cx")}); e != api.OK || len(got.Parts) != 2 {
		t.Error(got, e)
	}
}

func TestDays(t *testing.T) {
	for _, d := range strange() {
		if got, e := Total(chapter(), d, []api.Line{line(1, 1, "std")}); e != api.ErrDate || !same(got, api.Total{}) {
			t.Errorf("%v: %v, %d", d, got, e)
		}
	}
	leap := []api.Rate{row("std", 2020, 2, 29, 100)}
	for d, want := range map[api.Date]api.Errno{day(2020, 2, 28): api.ErrRate, day(2020, 2, 29): api.OK, day(2020, 2, 30): api.ErrDate, day(2020, 3, 1): api.OK} {
		if _, e := Total(leap, d, []api.Line{line(1, 1, "std")}); e != want {
			t.Errorf("%v: %d", d, e)
		}
	}
}

// TestAmounts goes up to each bound and one past it; step tells at which reckoning that is.
func TestAmounts(t *testing.T) {
	for i, c := range []struct {
		lines []api.Line
		step  int
	}{
		{[]api.Line{line(1, most, "a")}, sTold}, {[]api.Line{line(1, far, "a")}, sTold},
		{[]api.Line{line(2, most/2, "a")}, sTold}, {[]api.Line{line(2, 1<<62, "a")}, sMul}, {[]api.Line{line(2, -1<<62, "a")}, sTold}, {[]api.Line{line(2, -1<<62-1, "a")}, sMul}, {[]api.Line{line(3, most, "a")}, sMul}, {[]api.Line{line(2, far, "a")}, sMul},
		{[]api.Line{line(meg, 1<<43-1, "a")}, sTold}, {[]api.Line{line(meg, 1<<43, "a")}, sMul}, {[]api.Line{line(meg, -1<<43, "a")}, sTold}, {[]api.Line{line(meg, -1<<43-1, "a")}, sMul},
		{[]api.Line{line(1, most, "a"), line(1, 0, "a")}, sTold}, {[]api.Line{line(1, most, "a"), line(1, 1, "a")}, sPart}, {[]api.Line{line(1, far, "a"), line(1, -1, "a")}, sPart}, {[]api.Line{line(1, 1, "a"), line(1, most, "a")}, sPart}, {[]api.Line{line(1, most, "a"), line(1, most, "a")}, sPart}, {[]api.Line{line(1, far, "a"), line(1, far, "a")}, sPart}, {[]api.Line{line(1, most, "a"), line(1, far, "a"), line(1, most, "a")}, sTold},
		{[]api.Line{line(1, most, "above")}, sTax}, {[]api.Line{line(1, -most, "above")}, sTax}, {[]api.Line{line(1, far, "full")}, sTax}, {[]api.Line{line(1, most/10+1, "ten")}, sTax}, {[]api.Line{line(1, -most/10-1, "ten")}, sTax}, {[]api.Line{line(1, most/10, "ten"), line(1, 1, "ten")}, sTax},
		{[]api.Line{line(1, most, "a"), line(1, 1, "b")}, sNet}, {[]api.Line{line(1, most, "a"), line(1, 1, "c")}, sNet}, {[]api.Line{line(1, 1, "c"), line(1, most, "a")}, sNet}, {[]api.Line{line(1, far, "a"), line(1, -1, "c")}, sNet}, {[]api.Line{line(1, most, "a"), line(1, far, "c")}, sTold}, {[]api.Line{line(1, far, "a"), line(1, far, "c")}, sNet}, {[]api.Line{line(1, far, "c"), line(1, -1, "a")}, sNet},
		{[]api.Line{line(1, most/10, "ten"), line(1, 1, "tenth")}, sTaxes}, {[]api.Line{line(1, -most/10, "ten"), line(1, -1, "tenth")}, sTaxes}, {[]api.Line{line(1, most/10, "ten"), line(1, most/10, "tenth")}, sTaxes}, {[]api.Line{line(1, far/10, "ten"), line(1, far/10, "tenth")}, sTaxes}, {[]api.Line{line(1, far, "a"), line(1, most/10, "ten"), line(1, most/10, "tenth")}, sTaxes}, {[]api.Line{line(1, most, "a"), line(1, far/10, "ten"), line(1, far/10, "tenth")}, sTaxes},
		{[]api.Line{line(1, most, "full")}, sGross}, {[]api.Line{line(1, -most, "full")}, sGross}, {[]api.Line{line(1, most/2, "full")}, sTold}, {[]api.Line{line(1, 1<<62, "full")}, sGross}, {[]api.Line{line(1, -1<<62, "full")}, sTold}, {[]api.Line{line(1, -1<<62-1, "full")}, sGross}, {[]api.Line{line(1, most/10, "ten")}, sGross}, {[]api.Line{line(1, far/10, "ten")}, sGross}, {[]api.Line{line(1, far, "half")}, sGross}, {[]api.Line{line(1, far, "a"), line(1, most/10, "ten")}, sTold}, {[]api.Line{line(1, most, "a"), line(1, far/10, "ten")}, sTold},
	} {
		wanted, step := want(edges(), now(), c.lines)
		if step != c.step {
			t.Fatalf("%d: the first that is too much is at step %d", i, step)
		}
		if got, e := Total(edges(), now(), c.lines); e != why(step) || !same(got, wanted) {
			t.Errorf("%d: %v, %d, not %v", i, got, e, wanted)
		}
	}
}

// TestNoMakingGood: what goes too far is refused, though a later line or part would bring it back.
func TestNoMakingGood(t *testing.T) {
	for i, c := range []struct {
		lines []api.Line
		want  api.Errno
	}{
		{[]api.Line{line(1, most, "a"), line(1, 1, "a"), line(1, -1, "a")}, api.ErrOver}, {[]api.Line{line(1, most, "a"), line(1, -1, "a"), line(1, 1, "a")}, api.OK}, {[]api.Line{line(1, 1, "a"), line(1, -1, "a"), line(1, most, "a")}, api.OK},
		{[]api.Line{line(1, most, "a"), line(1, 1, "c"), line(1, -1, "e")}, api.ErrOver}, {[]api.Line{line(1, -1, "e"), line(1, 1, "c"), line(1, most, "a")}, api.ErrOver}, {[]api.Line{line(1, most, "a"), line(1, -1, "e"), line(1, 1, "c")}, api.ErrOver},
		{[]api.Line{line(1, most, "a"), line(1, -1, "c"), line(1, 1, "e")}, api.OK}, {[]api.Line{line(1, 1, "e"), line(1, most, "a"), line(1, -1, "c")}, api.OK}, {[]api.Line{line(1, most, "a"), line(1, 1, "e"), line(1, -1, "c")}, api.OK},
		{[]api.Line{line(1, most/10, "ten"), line(1, 1, "tenth"), line(1, -most/2, "a")}, api.ErrOver}, {[]api.Line{line(1, most/10, "ten"), line(1, -1, "tenth"), line(1, -most/2, "a")}, api.OK},
	} {
		if got, e := Total(edges(), now(), c.lines); e != c.want || (e == api.OK) == same(got, api.Total{}) {
			t.Errorf("%d: %v, %d", i, got, e)
		}
	}
}

// TestOrderAheadOfLines: of what is wrong with the whole call the first counts, and all of it ahead of any line's fault.
func TestOrderAheadOfLines(t *testing.T) {
	wrong := wrongTables()[0]
	bad := []api.Line{{Text: strings.Repeat("x", 65), Category: "7", Count: 0}}
	for i, c := range []struct {
		table []api.Rate
		d     api.Date
		lines []api.Line
		want  api.Errno
	}{
		{wrong, api.Date{}, nil, api.ErrArg}, {wrong, api.Date{}, bad, api.ErrArg}, {wrong, api.Date{}, slices.Repeat(bad, 13), api.ErrArg}, {wrong, now(), slices.Repeat(bad, 13), api.ErrArg}, {wrong, now(), bad, api.ErrArg}, {wrong, now(), []api.Line{line(1, 1, "rent")}, api.ErrArg}, {wrong, now(), []api.Line{line(2, most, "std")}, api.ErrArg},
		{chapter(), api.Date{}, nil, api.ErrDate}, {chapter(), api.Date{}, []api.Line{}, api.ErrDate}, {chapter(), api.Date{}, bad, api.ErrDate}, {chapter(), api.Date{}, slices.Repeat(bad, 13), api.ErrDate}, {nil, api.Date{}, []api.Line{line(1, 1, "rent")}, api.ErrDate}, {chapter(), day(2021, 2, 29), []api.Line{line(0, 1, "std")}, api.ErrDate}, {chapter(), day(2021, 2, 29), []api.Line{line(2, most, "std")}, api.ErrDate},
		{nil, now(), nil, api.ErrArg}, {nil, now(), slices.Repeat([]api.Line{line(1, 1, "rent")}, 13), api.ErrLong}, {chapter(), now(), slices.Repeat([]api.Line{line(1, 1, "7")}, 13), api.ErrLong}, {chapter(), now(), slices.Repeat([]api.Line{line(0, 1, "std")}, 13), api.ErrLong}, {chapter(), now(), slices.Repeat([]api.Line{line(2, most, "std")}, 13), api.ErrLong}, {chapter(), now(), slices.Repeat([]api.Line{line(0, 1, "std")}, 12), api.ErrArg},
	} {
		if got, e := Total(c.table, c.d, c.lines); e != c.want || !same(got, api.Total{}) {
			t.Errorf("%d: %v, %d", i, got, e)
		}
	}
}

// faults spoil a line, in the order in which they are asked; none makes another one good.
func faults() []func(l *api.Line) {
	return []func(l *api.Line){
		func(l *api.Line) { l.Text = strings.Repeat("x", 65) },
		func(l *api.Line) { l.Category += " " },
		func(l *api.Line) { l.Count = meg + 1 },
		func(l *api.Line) { l.Category = "rent" + l.Category },
		func(l *api.Line) { l.Price = most },
	}
}

// reason is the error of a fault.
func reason(fault int) api.Errno {
	return []api.Errno{api.ErrLong, api.ErrName, api.ErrArg, api.ErrRate, api.ErrOver}[fault]
}

// TestOrderWithinALine spoils one line by every set of faults.
func TestOrderWithinALine(t *testing.T) {
	for set := 1; set < 32; set++ {
		l, first := line(2, 1, "std"), -1
		for i, spoil := range faults() {
			if set>>i&1 == 1 {
				spoil(&l)
				if first < 0 {
					first = i
				}
			}
		}
		for at := range 3 {
			lines := slices.Repeat([]api.Line{line(1, 1, "food")}, 3)
			lines[at] = l
			if got, e := Total(chapter(), now(), lines); e != reason(first) || !same(got, api.Total{}) {
				t.Errorf("faults %b of line %d: %v, %d", set, at, got, e)
			}
		}
	}
}

// TestOrderOfLines spoils two lines: the earlier one's error counts, whichever it is.
func TestOrderOfLines(t *testing.T) {
	for i, spoil := range faults() {
		for _, ruin := range faults() {
			for first := range twelve {
				for second := first + 1; second < twelve; second++ {
					lines := slices.Repeat([]api.Line{line(2, 1, "std")}, twelve)
					spoil(&lines[first])
					ruin(&lines[second])
					if got, e := Total(chapter(), now(), lines); e != reason(i) || !same(got, api.Total{}) {
						t.Fatalf("%v: %v, %d", lines, got, e)
					}
				}
			}
		}
	}
}

// TestOrderOfSums: a part's Net that goes too far is its line's fault, ahead of a later line's, behind an earlier one's.
func TestOrderOfSums(t *testing.T) {
	for i, spoil := range faults() {
		bad := line(2, 1, "std")
		spoil(&bad)
		for _, c := range []struct {
			lines []api.Line
			want  api.Errno
		}{
			{[]api.Line{line(1, most, "std"), line(1, 1, "std"), bad}, api.ErrOver}, {[]api.Line{line(1, most, "std"), bad, line(1, 1, "std")}, reason(i)}, {[]api.Line{bad, line(1, most, "std"), line(1, 1, "std")}, reason(i)},
		} {
			if got, e := Total(chapter(), now(), c.lines); e != c.want || !same(got, api.Total{}) {
				t.Errorf("%d: %v: %v, %d", i, c.lines, got, e)
			}
		}
	}
}

// TestLinesAheadOfParts: parts that go too far (their Tax, the Net, the Tax, the Gross of the whole) are asked behind all lines.
func TestLinesAheadOfParts(t *testing.T) {
	for _, over := range [][]api.Line{
		{line(1, most, "above")}, {line(1, most, "a"), line(1, 1, "c")}, {line(1, most/10, "ten"), line(1, 1, "tenth")}, {line(1, most, "full")},
	} {
		if _, e := Total(edges(), now(), over); e != api.ErrOver {
			t.Errorf("%v: %d", over, e)
		}
		for i, spoil := range faults() {
			bad := line(2, 1, "e")
			spoil(&bad)
			for at := 0; at <= len(over); at++ {
				lines := slices.Insert(slices.Clone(over), at, bad)
				if got, e := Total(edges(), now(), lines); e != reason(i) || !same(got, api.Total{}) {
					t.Errorf("%v: %v, %d", lines, got, e)
				}
			}
		}
	}
}

// TestTotalOfDrawn holds Total against the model, and sees to it that each step is the first that is refused often enough.
func TestTotalOfDrawn(t *testing.T) {
	draw := rand.New(rand.NewSource(112))
	seen := [sSteps]int{}
	for range 60000 {
		table, d, lines := drawnCall(draw)
		wanted, step := want(table, d, lines)
		got, e := Total(table, d, lines)
		if e != why(step) || !same(got, wanted) {
			t.Fatalf("Total(%v, %v, %v) = %v, %d, not %v, %d", table, d, lines, got, e, wanted, why(step))
		}
		seen[step]++
	}
	for step, n := range seen {
		if n < 50 {
			t.Errorf("step %d was met %d times", step, n)
		}
	}
}

// R2, R5

func TestTotalLeavesWhatIsHandedIn(t *testing.T) {
	draw := rand.New(rand.NewSource(113))
	for range 3000 {
		table, lines := roomy(drawnTable(draw), row("food", 2000, 1, 1, 1)), roomy(drawnLines(draw), line(3, 3, "food"))
		d := drawnDay(draw)
		oldTable, oldLines := entire(table), entire(lines)
		wanted, step := want(slices.Clip(table), d, slices.Clip(lines))
		got, e := Total(table, d, lines)
		if e != why(step) || !same(got, wanted) {
			t.Fatalf("with spare room: %v, %d, not %v", got, e, wanted)
		}
		clear(got.Parts[:cap(got.Parts)])
		if !slices.Equal(entire(table), oldTable) || !slices.Equal(entire(lines), oldLines) {
			t.Fatal("what was handed in is another")
		}
	}
}

// TestSpareRoomIsNotRead: rows and lines behind the lists' lengths play no part.
func TestSpareRoomIsNotRead(t *testing.T) {
	if got, e := Total(roomy(chapter()[2:], row("food", 2000, 1, 1, 1)), now(), []api.Line{line(1, 1, "food")}); e != api.ErrRate || !same(got, api.Total{}) {
		t.Error(got, e)
	}
	if got, e := Total(roomy(chapter(), api.Rate{}), now(), []api.Line{line(1, 1, "food")}); e != api.OK || len(got.Parts) != 1 {
		t.Error(got, e)
	}
	if got, e := Total(chapter(), now(), roomy(nil, line(1, 1, "std"))); e != api.ErrArg || !same(got, api.Total{}) {
		t.Error(got, e)
	}
	if got, e := Total(chapter(), now(), roomy(slices.Repeat([]api.Line{line(1, 100, "std")}, twelve), api.Line{})); e != api.OK || got.Gross != twelve*119 {
		t.Error(got, e)
	}
}

// TestTotalIsNew: two answers to one question share no memory, their spare room included, nor does one hang on what was asked ahead.
func TestTotalIsNew(t *testing.T) {
	lines := []api.Line{line(1, 1, "food"), line(1, 100, "std"), line(1, 99, "food")}
	one, _ := Total(chapter(), now(), lines)
	keep := entire(one.Parts)
	two, _ := Total(chapter(), now(), lines)
	for i := range two.Parts[:cap(two.Parts)] {
		two.Parts[:cap(two.Parts)][i] = part("other", 9, 9, 9)
	}
	if !slices.Equal(entire(one.Parts), keep) {
		t.Error("the first answer became", one)
	}
	three, e := Total(chapter(), now(), lines)
	if e != api.OK || !same(three, one) {
		t.Error(three, e)
	}
	lines[0] = line(5, 5, "std")
	if !same(three, one) {
		t.Error("an answer changes with its lines")
	}
}
