package post

import (
	"math/rand"
	"slices"
	"strconv"
	"testing"

	"impost/api"
)

func TestRuns(t *testing.T) {
	l, e := Entries(total(100, 19, 119, part("std", 100, 19)))
	if e != api.OK || !slices.Equal(l, rows(acc("owed", 119), acc("net/std", -100), acc("tax/std", -19))) {
		t.Error(l, e)
	}
	book, e := Enter(rows(acc("owed", 5)), l)
	if e != api.OK || !slices.Equal(book, rows(acc("net/std", -100), acc("owed", 124), acc("tax/std", -19))) {
		t.Error(book, e)
	}
	if !Balanced(l) || !Balanced(amounts(1<<63-1, 1, -1<<63)) {
		t.Error("not balanced")
	}
}

// P12.1

func TestEntries(t *testing.T) {
	for i, c := range []struct {
		of   api.Total
		want []api.Balance
	}{
		{api.Total{}, rows(acc("owed", 0))},
		{api.Total{Gross: 7, Parts: []api.Part{}}, rows(acc("owed", 7))},
		{total(100, 19, 119, part("std", 100, 19)), rows(acc("owed", 119), acc("net/std", -100), acc("tax/std", -19))},
		{total(-100, -19, -119, part("std", -100, -19)), rows(acc("owed", -119), acc("net/std", 100), acc("tax/std", 19))},
		{total(350, 25, 375, part("food", 300, 15), part("std", 50, 10)), rows(acc("owed", 375), acc("net/food", -300), acc("tax/food", -15), acc("net/std", -50), acc("tax/std", -10))},
		{total(0, 0, 0, part("a", 0, 0)), rows(acc("owed", 0), acc("net/a", 0), acc("tax/a", 0))},
		{total(5, 5, 5, part("b", 1, 2), part("a", 3, 4), part("b", 5, 6)), rows(acc("owed", 5), acc("net/b", -1), acc("tax/b", -2), acc("net/a", -3), acc("tax/a", -4), acc("net/b", -5), acc("tax/b", -6))},
		{total(1, 2, 9, part("", 1, 2)), rows(acc("owed", 9), acc("net/", -1), acc("tax/", -2))},
		{total(1, 2, 9, part("\xff\x00/", 1, 2), part("owed", 3, 4)), rows(acc("owed", 9), acc("net/\xff\x00/", -1), acc("tax/\xff\x00/", -2), acc("net/owed", -3), acc("tax/owed", -4))},
		{total(0, 0, 0, part("a", most, far+1), part("b", far+1, most)), rows(acc("owed", 0), acc("net/a", -most), acc("tax/a", most), acc("net/b", most), acc("tax/b", -most))},
	} {
		if got, e := Entries(c.of); e != api.OK || !slices.Equal(got, c.want) {
			t.Errorf("%d: %v, %d, not %v", i, got, e, c.want)
		}
	}
}

// TestGrossIsAny: it isn't taken off 0; and a total's Net and Tax, and a part's Bp, are no entries.
func TestGrossIsAny(t *testing.T) {
	for _, n := range []int{far, far + 1, -1, 0, 1, most - 1, most} {
		if got, e := Entries(total(1, 1, n)); e != api.OK || !slices.Equal(got, rows(acc("owed", n))) {
			t.Error(n, got, e)
		}
		got, e := Entries(total(n, n, 3, api.Part{Category: "a", Bp: n, Net: 1, Tax: 2}))
		if e != api.OK || !slices.Equal(got, rows(acc("owed", 3), acc("net/a", -1), acc("tax/a", -2))) {
			t.Error(n, got, e)
		}
	}
}

// TestEntriesOfTheLeast sets each part's Net and Tax to the least int, one at a time, and two at a time.
func TestEntriesOfTheLeast(t *testing.T) {
	for i := range 8 {
		for j := range 8 {
			a := total(1, 2, 3, part("a", 1, 2), part("b", 3, 4), part("c", 5, 6), part("d", 7, 8))
			for _, at := range []int{i, j} {
				if at%2 == 0 {
					a.Parts[at/2].Net = far
				} else {
					a.Parts[at/2].Tax = far
				}
			}
			if got, e := Entries(a); e != api.ErrOver || got != nil {
				t.Errorf("%d, %d: %v, %d", i, j, got, e)
			}
		}
	}
}

// TestEntriesOfManyParts has more parts than any invoice.
func TestEntriesOfManyParts(t *testing.T) {
	for _, n := range []int{12, 13, 1000} {
		a, want := total(0, 0, 1), rows(acc("owed", 1))
		for i := range n {
			s := strconv.Itoa(i)
			a.Parts = append(a.Parts, part(s, i, -2*i))
			want = append(want, acc("net/"+s, -i), acc("tax/"+s, 2*i))
		}
		if got, e := Entries(a); e != api.OK || !slices.Equal(got, want) {
			t.Errorf("%d parts: %v, %d", n, got, e)
		}
		a.Parts[n-1].Tax = far
		if got, e := Entries(a); e != api.ErrOver || got != nil {
			t.Errorf("%d parts: %v, %d", n, got, e)
		}
	}
}

func TestEntriesOfDrawn(t *testing.T) {
	draw := rand.New(rand.NewSource(121))
	seen := [2]int{}
	for range 30000 {
		a := drawnTotal(draw)
		want, why := wantEntries(a)
		got, e := Entries(a)
		if e != why || !slices.Equal(got, want) || e != api.OK && got != nil {
			t.Fatalf("Entries(%v) = %v, %d, not %v, %d", a, got, e, want, why)
		}
		if e == api.OK {
			seen[0]++
		} else {
			seen[1]++
		}
	}
	if min(seen[0], seen[1]) < 1000 {
		t.Error(seen)
	}
}

// TestEntriesLeaveWhatIsHandedIn: R2, for answers and for refusals, and R5.
func TestEntriesLeaveWhatIsHandedIn(t *testing.T) {
	draw := rand.New(rand.NewSource(122))
	for range 5000 {
		a := drawnTotal(draw)
		want, why := wantEntries(a)
		a.Parts = roomy(a.Parts, part("spare", far, far))
		keep := entire(a.Parts)
		got, e := Entries(a)
		if e != why || !slices.Equal(got, want) {
			t.Fatalf("with spare room: %v, %d, not %v", got, e, want)
		}
		spoil(got)
		if !slices.Equal(entire(a.Parts), keep) {
			t.Fatal("what was handed in is another")
		}
	}
}

// TestEntriesAreNew: two answers share no memory, their spare room included, and none changes with what was handed in.
func TestEntriesAreNew(t *testing.T) {
	for _, a := range []api.Total{total(0, 0, 5), total(1, 2, 3, part("a", 4, 5), part("b", 6, 7))} {
		one, _ := Entries(a)
		keep := entire(one)
		two, _ := Entries(a)
		spoil(two)
		for i := range a.Parts {
			a.Parts[i] = part("other", 9, 9)
		}
		if !slices.Equal(entire(one), keep) {
			t.Error("the first answer became", one)
		}
	}
}

// P12.2

func TestRight(t *testing.T) {
	for i, c := range []struct {
		book []api.Balance
		want bool
	}{
		{nil, true}, {rows(), true}, {plain(""), true}, {plain("a"), true}, {plain("\xff"), true},
		{plain("a", "b"), true}, {plain("b", "a"), false}, {plain("a", "a"), false}, {plain("", ""), false}, {plain("\xff", "\xff"), false},
		{plain("", "\x00"), true}, {plain("\x00", ""), false}, {plain("", "a"), true}, {plain("a", ""), false},
		{plain("abc", "abd"), true}, {plain("abd", "abc"), false}, {plain("ab", "abc"), true}, {plain("abc", "ab"), false},
		{plain("B", "a"), true}, {plain("a", "B"), false}, {plain("10", "9"), true}, {plain("9", "10"), false},
		{plain("a\x7f", "a\x80"), true}, {plain("a\x80", "a\x7f"), false}, {plain("\ufffd", "\xff"), true}, {plain("\xff", "\ufffd"), false},
		{plain("a", "c", "b"), false}, {plain("b", "a", "c"), false}, {plain("a", "b", "c"), true}, {plain("a", "b", "b"), false}, {plain("a", "a", "b"), false}, {plain("a", "b", "a"), false}, {plain("c", "b", "a"), false},
	} {
		if Right(c.book) != c.want {
			t.Errorf("%d: %v", i, c.book)
		}
	}
}

// TestRightGoesByAccountsAlone has amounts that rise, fall and are any.
func TestRightGoesByAccountsAlone(t *testing.T) {
	for _, a := range []int{far, -1, 0, 1, most} {
		for _, b := range []int{far, -1, 0, 1, most} {
			if !Right(rows(acc("a", a), acc("b", b))) || Right(rows(acc("b", a), acc("a", b))) || Right(rows(acc("a", a), acc("a", b))) {
				t.Error(a, b)
			}
		}
	}
}

func TestRightOfEveryPair(t *testing.T) {
	l := rising()
	for i, a := range l {
		for j, b := range l {
			if Right(plain(a, b)) != (i < j) {
				t.Errorf("%.20q, %.20q", a, b)
			}
		}
	}
	if !Right(plain(l...)) {
		t.Error("all of them")
	}
}

// TestRightAtEveryPlace has one fault, at each place of a long book.
func TestRightAtEveryPlace(t *testing.T) {
	for at := 1; at < len(rising()); at++ {
		l := rising()
		l[at-1], l[at] = l[at], l[at-1]
		if Right(plain(l...)) {
			t.Errorf("%d, swapped", at)
		}
		l = rising()
		l[at] = l[at-1]
		if Right(plain(l...)) {
			t.Errorf("%d, twice", at)
		}
	}
}

func TestRightOfDrawn(t *testing.T) {
	draw := rand.New(rand.NewSource(123))
	seen := map[bool]int{}
	for range 5000 {
		book := roomy(drawnBook(draw), acc("", 0))
		keep := entire(book)
		want := wantRight(book)
		seen[want]++
		if Right(book) != want || !slices.Equal(entire(book), keep) {
			t.Fatalf("%v", book)
		}
	}
	if min(seen[true], seen[false]) < 500 {
		t.Error(seen)
	}
}

// P12.4

func TestBalanced(t *testing.T) {
	for i, c := range []struct {
		l    []int
		want bool
	}{
		{nil, true}, {[]int{}, true}, {[]int{0}, true}, {[]int{0, 0, 0}, true}, {[]int{1}, false}, {[]int{-1}, false}, {[]int{far}, false}, {[]int{most}, false},
		{[]int{1, -1}, true}, {[]int{1, -2}, false}, {[]int{5, -2, -3}, true}, {[]int{-3, 5, -2}, true}, {[]int{1, -1, 1}, false},
		// beyond an int on the way, and back
		{[]int{most, 1, far}, true}, {[]int{1, most, far}, true}, {[]int{far, most, 1}, true}, {[]int{most, most, far, far, 2}, true}, {[]int{far, far, most, most, 2}, true}, {[]int{far, -1, most, 2}, true}, {[]int{far, -1, most, 1}, false}, {[]int{most, 1, far, 1}, false}, {[]int{most, 1, far, -1}, false}, {[]int{most, far}, false},
		// 0 in one word alone
		{[]int{far, far}, false}, {[]int{most, most, 2}, false}, {[]int{far, far, far, far}, false}, {[]int{most, most, most, most, 4}, false}, {[]int{1, 1}, false}, {[]int{1 << 32}, false}, {[]int{-1 << 32}, false}, {[]int{1 << 62, 1 << 62, 1 << 62, 1 << 62}, false}, {[]int{-1 << 62, -1 << 62, -1 << 62, -1 << 62}, false}, {[]int{1<<32 - 1, 1}, false},
		{[]int{-1, -1}, false}, {[]int{far, far, 1}, false}, {[]int{far, far, -1}, false}, {[]int{most, most, 1}, false}, {[]int{most, most, 3}, false},
	} {
		if Balanced(amounts(c.l...)) != c.want {
			t.Errorf("%d: %v", i, c.l)
		}
	}
}

// TestBalancedOfAnyAccounts: they play no part, and the list need not be right.
func TestBalancedOfAnyAccounts(t *testing.T) {
	for _, l := range [][]api.Balance{rows(acc("b", 1), acc("a", -1)), rows(acc("a", 1), acc("b", -1)), rows(acc("", 1), acc("", -1)), rows(acc("\xff", most), acc("owed", -most))} {
		if !Balanced(l) {
			t.Errorf("%v", l)
		}
		l[0].Amount--
		if Balanced(l) {
			t.Errorf("%v", l)
		}
	}
}

// TestBalancedOfManyRows has sums far beyond an int, which come to 0 by the last rows alone.
func TestBalancedOfManyRows(t *testing.T) {
	for _, n := range []int{2, 3, 1000, 1 << 16, 1<<17 + 1} {
		up, down, ones := slices.Repeat(amounts(most), n), slices.Repeat(amounts(far), n), slices.Repeat(amounts(1), n)
		for i, l := range [][]api.Balance{slices.Concat(up, down, ones), slices.Concat(down, up, ones), slices.Concat(ones, down, up)} {
			if !Balanced(l) || Balanced(l[1:]) || Balanced(l[:len(l)-1]) || Balanced(append(l, acc("a", -1))) {
				t.Error(n, i)
			}
		}
		if Balanced(up) || Balanced(down) || Balanced(ones) || Balanced(slices.Concat(up, down)) || Balanced(slices.Concat(up, ones)) {
			t.Error(n)
		}
	}
}

// TestBalancedOfDrawn draws rows, and brings each sum to 0, to a few off it, and to whole words off it.
func TestBalancedOfDrawn(t *testing.T) {
	draw := rand.New(rand.NewSource(124))
	for range 10000 {
		l := drawnRows(draw, 12)
		for sum := all(l); sum.Sign() != 0; sum = all(l) {
			n := far
			switch {
			case sum.IsInt64() && sum.Int64() != far:
				n = int(-sum.Int64())
			case sum.Sign() < 0:
				n = most
			}
			if Balanced(l) {
				t.Fatalf("%v comes to %v", l, sum)
			}
			l = append(l, acc("a", n))
		}
		draw.Shuffle(len(l), func(i, j int) { l[i], l[j] = l[j], l[i] })
		l = roomy(l, acc("spare", 1))
		keep := entire(l)
		if !Balanced(l) || !slices.Equal(entire(l), keep) {
			t.Fatalf("%v comes to 0", l)
		}
		for _, off := range [][]int{{1}, {-1}, {far, far}, {most, most, 2}, {1 << 32}, {-1 << 32}, {most}, {far}} {
			if more := append(slices.Clone(l), amounts(off...)...); Balanced(more) || wantBalanced(more) {
				t.Fatalf("%v comes to %v", more, all(more))
			}
		}
	}
}
