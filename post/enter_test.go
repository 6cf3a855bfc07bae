package post

import (
	"math/rand"
	"slices"
	"strconv"
	"testing"

	"impost/api"
)

// P12.3

// entered is an Enter that is not refused.
type entered struct{ book, l, want []api.Balance }

func hold(t *testing.T, cases []entered) {
	t.Helper()
	for i, c := range cases {
		if got, e := Enter(c.book, c.l); e != api.OK || !slices.Equal(got, c.want) {
			t.Errorf("%d: %v, %d, not %v", i, got, e, c.want)
		}
	}
}

func TestEnter(t *testing.T) {
	abc := rows(acc("a", 1), acc("b", 2), acc("c", 3))
	hold(t, []entered{
		{rows(acc("owed", 5)), rows(acc("owed", 119), acc("net/std", -100), acc("tax/std", -19)), rows(acc("net/std", -100), acc("owed", 124), acc("tax/std", -19))},
		{abc, rows(acc("a", 10)), rows(acc("a", 11), acc("b", 2), acc("c", 3))},
		{abc, rows(acc("b", -2)), rows(acc("a", 1), acc("b", 0), acc("c", 3))},
		{abc, rows(acc("c", -5)), rows(acc("a", 1), acc("b", 2), acc("c", -2))},
		{abc, rows(acc("c", 1), acc("a", 2), acc("b", 3)), rows(acc("a", 3), acc("b", 5), acc("c", 4))},
		{abc, rows(acc("b", 1), acc("b", 10), acc("b", -3), acc("b", 1)), rows(acc("a", 1), acc("b", 11), acc("c", 3))},
		{abc, rows(acc("a", 0), acc("b", 0), acc("c", 0)), abc},
	})
}

func TestEnterOfNothing(t *testing.T) {
	one := rows(acc("a", 7))
	hold(t, []entered{
		{nil, nil, nil}, {nil, rows(), nil}, {rows(), nil, nil}, {rows(), rows(), nil},
		{one, nil, one}, {one, rows(), one}, {nil, one, one}, {rows(), one, one},
		{rows(acc("", 7)), nil, rows(acc("", 7))}, {nil, rows(acc("", 0)), rows(acc("", 0))}, {nil, rows(acc("a", 0)), rows(acc("a", 0))},
	})
}

// TestEnterOfNewAccounts: ahead of all, between two, behind all; of one that begins with another; several times.
func TestEnterOfNewAccounts(t *testing.T) {
	book := rows(acc("b", 1), acc("d", 2))
	hold(t, []entered{
		{book, rows(acc("a", 9)), rows(acc("a", 9), acc("b", 1), acc("d", 2))},
		{book, rows(acc("", 9)), rows(acc("", 9), acc("b", 1), acc("d", 2))},
		{book, rows(acc("c", 9)), rows(acc("b", 1), acc("c", 9), acc("d", 2))},
		{book, rows(acc("b\x00", 9)), rows(acc("b", 1), acc("b\x00", 9), acc("d", 2))},
		{book, rows(acc("e", 9)), rows(acc("b", 1), acc("d", 2), acc("e", 9))},
		{book, rows(acc("dd", 9)), rows(acc("b", 1), acc("d", 2), acc("dd", 9))},
		{book, rows(acc("\xff", 9)), rows(acc("b", 1), acc("d", 2), acc("\xff", 9))},
		{book, rows(acc("e", 1), acc("c", 2), acc("a", 3)), rows(acc("a", 3), acc("b", 1), acc("c", 2), acc("d", 2), acc("e", 1))},
		{book, rows(acc("c", 1), acc("c", 2), acc("a", 3), acc("c", -5), acc("a", 0)), rows(acc("a", 3), acc("b", 1), acc("c", -2), acc("d", 2))},
		{book, rows(acc("c", 0)), rows(acc("b", 1), acc("c", 0), acc("d", 2))},
		{book, rows(acc("c", 4), acc("c", -4)), rows(acc("b", 1), acc("c", 0), acc("d", 2))},
		{nil, rows(acc("b", 1), acc("a", 2), acc("b", 3), acc("a", 4)), rows(acc("a", 6), acc("b", 4))},
		{rows(acc("ab", 0)), rows(acc("abc", 1), acc("a", 2), acc("aba", 3)), rows(acc("a", 2), acc("ab", 0), acc("aba", 3), acc("abc", 1))},
	})
}

// TestEnterKeepsAccountsOfNothing: an account whose amount is 0, or comes to 0, stays, and is not another's.
func TestEnterKeepsAccountsOfNothing(t *testing.T) {
	hold(t, []entered{
		{plain("a", "b", "c"), nil, plain("a", "b", "c")},
		{plain("a", "c"), plain("b", "b", "c", "a"), plain("a", "b", "c")},
		{rows(acc("a", 5)), rows(acc("a", -5)), plain("a")},
	})
}

// TestEnterOfEveryPair holds each pair of accounts against each other, one in the book and one not.
func TestEnterOfEveryPair(t *testing.T) {
	for i, a := range rising() {
		for j, b := range rising() {
			want := rows(acc(a, 1), acc(b, 2))
			if i > j {
				want = rows(acc(b, 2), acc(a, 1))
			}
			if i == j {
				want = rows(acc(a, 3))
			}
			if got, e := Enter(rows(acc(a, 1)), rows(acc(b, 2))); e != api.OK || !slices.Equal(got, want) {
				t.Errorf("%.20q, %.20q: %v, %d", a, b, got, e)
			}
		}
	}
}

// TestEnterAtEveryPlace lacks one account, or has it, at each place of books of each length.
func TestEnterAtEveryPlace(t *testing.T) {
	for n := 1; n <= len(rising()); n++ {
		full := plain(rising()[:n]...)
		for i := range full {
			full[i].Amount = i * i
		}
		for at := range n {
			row := full[at]
			if got, e := Enter(slices.Delete(slices.Clone(full), at, at+1), rows(row)); e != api.OK || !slices.Equal(got, full) {
				t.Fatalf("%d of %d, lacking: %v, %d", at, n, got, e)
			}
			want := slices.Clone(full)
			want[at].Amount *= 2
			if got, e := Enter(full, rows(row)); e != api.OK || !slices.Equal(got, want) {
				t.Fatalf("%d of %d, there: %v, %d", at, n, got, e)
			}
		}
	}
}

func TestEnterAtTheEnds(t *testing.T) {
	for i, c := range []struct {
		has  int
		l    []int
		want int
		e    api.Errno
	}{
		{most, []int{0}, most, api.OK}, {most - 1, []int{1}, most, api.OK}, {most, []int{1}, 0, api.ErrOver}, {1, []int{most}, 0, api.ErrOver}, {0, []int{most}, most, api.OK}, {most, []int{most}, 0, api.ErrOver},
		{far, []int{0}, far, api.OK}, {far + 1, []int{-1}, far, api.OK}, {far, []int{-1}, 0, api.ErrOver}, {-1, []int{far}, 0, api.ErrOver}, {0, []int{far}, far, api.OK}, {far, []int{far}, 0, api.ErrOver},
		{most, []int{-most}, 0, api.OK}, {most, []int{far}, -1, api.OK}, {far, []int{most, 1}, 0, api.OK}, {far, []int{most}, -1, api.OK},
		// one that goes too far is not made good by a later one
		{most, []int{1, -1}, 0, api.ErrOver}, {most, []int{-1, 1}, most, api.OK}, {far, []int{-1, 1}, 0, api.ErrOver}, {far, []int{1, -1}, far, api.OK}, {most, []int{-5, 5, 1}, 0, api.ErrOver}, {0, []int{most, 1, far}, 0, api.ErrOver}, {0, []int{most, far, 1}, 0, api.OK}, {1, []int{most, far}, 0, api.ErrOver}, {1, []int{far, most}, 0, api.OK},
	} {
		want := rows(acc("same", c.want))
		if c.e != api.OK {
			want = nil
		}
		got, e := Enter(rows(acc("same", c.has)), amounts(c.l...))
		if e != c.e || !slices.Equal(got, want) || e != api.OK && got != nil {
			t.Errorf("%d: %v, %d, not %v, %d", i, got, e, want, c.e)
		}
		got, e = Enter(nil, amounts(append([]int{c.has}, c.l...)...))
		if e != c.e || !slices.Equal(got, want) || e != api.OK && got != nil {
			t.Errorf("%d, of none: %v, %d, not %v, %d", i, got, e, want, c.e)
		}
	}
}

// TestEnterTooMuchAtEveryRow has one row that is too much, at each place, of an account that is there and of one that isn't; then a second one behind it.
func TestEnterTooMuchAtEveryRow(t *testing.T) {
	book := rows(acc("a", most), acc("b", far), acc("c", 0))
	fine := rows(acc("a", -1), acc("b", 1), acc("d", most), acc("c", most), acc("c", far), acc("e", far))
	if got, e := Enter(book, fine); e != api.OK || len(got) != 5 {
		t.Fatal(got, e)
	}
	for _, over := range [][]api.Balance{rows(acc("a", most)), rows(acc("b", far)), rows(acc("f", most), acc("f", 1)), rows(acc("f", far), acc("f", -1)), rows(acc("a", most), acc("b", far))} {
		for at := range len(fine) + 1 {
			if got, e := Enter(book, slices.Insert(slices.Clone(fine), at, over...)); e != api.ErrOver || got != nil {
				t.Errorf("%v at %d: %v, %d", over, at, got, e)
			}
		}
	}
}

// TestEnterAsksTheBookFirst: a book that isn't right is told ahead of rows that are too much, however they are.
func TestEnterAsksTheBookFirst(t *testing.T) {
	for i, book := range [][]api.Balance{
		plain("b", "a"), plain("a", "a"), plain("", ""), plain("a", ""), plain("ab", "a"), plain("a\xff", "a\xfe"), plain("a", "c", "b"), plain("a", "b", "b"), plain("b", "a", "c"),
		rows(acc("a", most), acc("a", most)), rows(acc("b", most), acc("a", far)), rows(acc("a", 1), acc("a", -1)), rows(acc("a", most), acc("c", 0), acc("b", 0)),
	} {
		for j, l := range [][]api.Balance{nil, rows(), rows(acc("a", 0)), rows(acc("z", 1)), rows(acc("a", most), acc("a", 1)), rows(acc("a", far), acc("a", far)), rows(acc("z", most), acc("z", most))} {
			if got, e := Enter(book, l); e != api.ErrArg || got != nil {
				t.Errorf("%d, %d: %v, %d", i, j, got, e)
			}
		}
	}
}

// TestEnterTakesRowsInAnyOrder: only the book must be right.
func TestEnterTakesRowsInAnyOrder(t *testing.T) {
	draw := rand.New(rand.NewSource(125))
	want := plain(rising()...)
	for i := range want {
		want[i].Amount = i
	}
	for range 200 {
		l := slices.Clone(want)
		draw.Shuffle(len(l), func(i, j int) { l[i], l[j] = l[j], l[i] })
		if got, e := Enter(nil, l); e != api.OK || !slices.Equal(got, want) {
			t.Fatalf("%v, %d", got, e)
		}
	}
}

// TestEnterOfManyAccounts would take very long if each new account moved all others.
func TestEnterOfManyAccounts(t *testing.T) {
	const n = 200000
	var l, want []api.Balance
	for i := range n {
		l = append(l, acc(strconv.Itoa(2*n-i), i))
		want = append(want, acc(strconv.Itoa(n+1+i), n-1-i))
	}
	got, e := Enter(nil, l)
	if e != api.OK || !slices.Equal(got, want) {
		t.Fatal("falling", len(got), e)
	}
	for i := range want {
		want[i].Amount *= 2
	}
	if got, e = Enter(got, l); e != api.OK || !slices.Equal(got, want) {
		t.Fatal("once more", len(got), e)
	}
	if got, e = Enter(nil, slices.Repeat(amounts(1), n)); e != api.OK || !slices.Equal(got, rows(acc("same", n))) {
		t.Fatal("one account", len(got), e)
	}
}

func TestEnterOfDrawn(t *testing.T) {
	draw := rand.New(rand.NewSource(126))
	seen := map[api.Errno]int{}
	for range 30000 {
		book, l := drawnBook(draw), drawnRows(draw, 8)
		want, why := wantEnter(book, l)
		got, e := Enter(book, l)
		if e != why || !slices.Equal(got, want) || e != api.OK && got != nil {
			t.Fatalf("Enter(%v, %v) = %v, %d, not %v, %d", book, l, got, e, want, why)
		}
		seen[e]++
	}
	if min(seen[api.OK], seen[api.ErrArg], seen[api.ErrOver]) < 2000 {
		t.Error(seen)
	}
}

// TestEnterLeavesWhatIsHandedIn: R2, for answers and for refusals, and R5.
func TestEnterLeavesWhatIsHandedIn(t *testing.T) {
	draw := rand.New(rand.NewSource(127))
	for range 10000 {
		book, l := drawnBook(draw), drawnRows(draw, 6)
		want, why := wantEnter(book, l)
		book, l = roomy(book, acc("", most)), roomy(l, acc("a", most))
		oldBook, oldL := entire(book), entire(l)
		got, e := Enter(book, l)
		if e != why || !slices.Equal(got, want) {
			t.Fatalf("with spare room: %v, %d, not %v", got, e, want)
		}
		spoil(got)
		if !slices.Equal(entire(book), oldBook) || !slices.Equal(entire(l), oldL) {
			t.Fatal("what was handed in is another")
		}
	}
}

// TestEnterIsNew: two answers share no memory, their spare room included, and none changes with what was handed in, though there were nothing to do.
func TestEnterIsNew(t *testing.T) {
	for _, l := range [][]api.Balance{nil, rows(), rows(acc("b", 1)), rows(acc("a", 1), acc("bb", 2), acc("z", 3), acc("z", 4))} {
		for _, book := range [][]api.Balance{rows(acc("b", 5), acc("c", 6)), nil, roomy(nil, acc("a", 1))} {
			one, _ := Enter(book, l)
			keep := entire(one)
			two, _ := Enter(book, l)
			spoil(two)
			spoil(book)
			if !slices.Equal(entire(one), keep) {
				t.Error("the first answer became", one)
			}
		}
		l = slices.Clone(l)
		one, _ := Enter(nil, l)
		keep := entire(one)
		spoil(l)
		if !slices.Equal(entire(one), keep) {
			t.Error("with the rows the answer became", one)
		}
	}
}

// TestEnterOfOneMemory: the rows are the book itself, or stand in its spare room.
func TestEnterOfOneMemory(t *testing.T) {
	book := rows(acc("b", 5), acc("d", 6))
	if got, e := Enter(book, book); e != api.OK || !slices.Equal(got, rows(acc("b", 10), acc("d", 12))) {
		t.Error(got, e)
	}
	both := rows(acc("b", 5), acc("d", 6), acc("c", 1), acc("d", 2), acc("a", 3))
	keep := entire(both)
	got, e := Enter(both[:2], both[2:])
	if e != api.OK || !slices.Equal(got, rows(acc("a", 3), acc("b", 5), acc("c", 1), acc("d", 8))) || !slices.Equal(entire(both), keep) {
		t.Error(got, e, both)
	}
}
