package post

import (
	"math/rand"
	"slices"
	"testing"

	"impost/api"
)

// P12.5

// fitting draws a total whose Gross is Net and Tax, these being the sums of its parts'; false, if they are no amounts.
func fitting(draw *rand.Rand) (api.Total, bool) {
	var t api.Total
	var nets, taxes []api.Balance
	for range draw.Intn(6) {
		p := part(pick(draw, "a", "b", "food", "std", "\u00fc"), drawnAmount(draw), drawnAmount(draw)/16)
		nets, taxes = append(nets, acc("", p.Net)), append(taxes, acc("", p.Tax))
		t.Parts = append(t.Parts, p)
	}
	net, tax, gross := all(nets), all(taxes), all(slices.Concat(nets, taxes))
	if !net.IsInt64() || !tax.IsInt64() || !gross.IsInt64() {
		return api.Total{}, false
	}
	t.Net, t.Tax, t.Gross = int(net.Int64()), int(tax.Int64()), int(gross.Int64())
	return t, true
}

// off is n and one more, or one less where there is none more.
func off(n int) int {
	if n == most {
		return n - 1
	}
	return n + 1
}

func TestFittingTotalsAreBalanced(t *testing.T) {
	draw := rand.New(rand.NewSource(128))
	seen := 0
	for range 30000 {
		a, ok := fitting(draw)
		l, e := Entries(a)
		if !ok || e != api.OK {
			continue
		}
		seen++
		if !Balanced(l) {
			t.Fatalf("%v: %v", a, l)
		}
		a.Gross = off(a.Gross)
		if l, e := Entries(a); e != api.OK || Balanced(l) {
			t.Fatalf("%v: %v, %d", a, l, e)
		}
	}
	if seen < 5000 {
		t.Error(seen)
	}
}

// TestSumsThatComeBack has totals that fit together, though the sums of their first parts don't fit an int.
func TestSumsThatComeBack(t *testing.T) {
	for i, a := range []api.Total{
		total(most, 0, most, part("a", most, 0), part("b", most, 0), part("c", -most, 0)),
		total(0, most, most, part("a", 0, most), part("b", 0, most), part("c", 0, -most)),
		total(-2, 0, -2, part("a", -most, 0), part("b", -most, 0), part("c", most, 0), part("d", most-2, 0)),
		total(most, far+1, 0, part("a", most, far+1)),
		total(far, 0, far, part("a", -most, 0), part("b", -1, 0)),
	} {
		l, e := Entries(a)
		if e != api.OK || !Balanced(l) {
			t.Errorf("%d: %v, %d", i, l, e)
		}
		book, e := Enter(nil, l)
		if e != api.OK || !Balanced(book) || !Right(book) {
			t.Errorf("%d: %v, %d", i, book, e)
		}
	}
}

// TestBooksStayBalanced enters fitting totals one behind the other; those that are too much change nothing.
func TestBooksStayBalanced(t *testing.T) {
	draw := rand.New(rand.NewSource(129))
	took, over := 0, 0
	for range 200 {
		var book []api.Balance
		for range 60 {
			a, ok := fitting(draw)
			l, e := Entries(a)
			if !ok || e != api.OK {
				continue
			}
			more, e := Enter(book, l)
			if e != api.OK {
				over++
				continue
			}
			took++
			if !Balanced(more) || !Right(more) {
				t.Fatalf("%v behind %v: %v", a, book, more)
			}
			book = more
		}
	}
	if took < 2000 || over < 200 {
		t.Error(took, over)
	}
}

// TestEnterAddsItsRows: a book that isn't balanced is just as far off behind balanced entries, and any book by what its rows come to.
func TestEnterAddsItsRows(t *testing.T) {
	draw := rand.New(rand.NewSource(130))
	seen := 0
	for range 20000 {
		book, l := drawnBook(draw), drawnRows(draw, 5)
		more, e := Enter(book, l)
		if e != api.OK {
			continue
		}
		seen++
		if want := all(book); want.Add(want, all(l)).Cmp(all(more)) != 0 || Balanced(more) != (want.Sign() == 0) {
			t.Fatalf("%v and %v: %v", book, l, more)
		}
	}
	if seen < 5000 {
		t.Error(seen)
	}
}

// TestTakenBack: a total and what takes it back leave all its accounts with 0.
func TestTakenBack(t *testing.T) {
	a, _ := Entries(total(350, 25, 375, part("food", 300, 15), part("std", 50, 10)))
	b, _ := Entries(total(-350, -25, -375, part("food", -300, -15), part("std", -50, -10)))
	book, e := Enter(nil, a)
	if e != api.OK {
		t.Fatal(e)
	}
	if book, e = Enter(book, b); e != api.OK || !slices.Equal(book, plain("net/food", "net/std", "owed", "tax/food", "tax/std")) {
		t.Error(book, e)
	}
}

// TestTheSameAgain enters one total over and over.
func TestTheSameAgain(t *testing.T) {
	l, _ := Entries(total(100, 19, 119, part("std", 100, 19)))
	var book []api.Balance
	for n := 1; n <= 1000; n++ {
		var e api.Errno
		if book, e = Enter(book, l); e != api.OK || !slices.Equal(book, rows(acc("net/std", -100*n), acc("owed", 119*n), acc("tax/std", -19*n))) || !Balanced(book) {
			t.Fatal(n, book, e)
		}
	}
}
