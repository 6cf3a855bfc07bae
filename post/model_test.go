package post

import (
	"maps"
	"math"
	"math/big"
	"math/rand"
	"slices"
	"strings"

	"impost/api"
)

const (
	most = math.MaxInt
	far  = math.MinInt
)

func acc(account string, amount int) api.Balance {
	return api.Balance{Account: account, Amount: amount}
}

func rows(l ...api.Balance) []api.Balance { return l }

func part(category string, net, tax int) api.Part {
	return api.Part{Category: category, Bp: 1900, Net: net, Tax: tax}
}

func total(net, tax, gross int, parts ...api.Part) api.Total {
	return api.Total{Net: net, Tax: tax, Gross: gross, Parts: parts}
}

// amounts is a list of one account over and over, with these amounts.
func amounts(l ...int) []api.Balance {
	var out []api.Balance
	for _, n := range l {
		out = append(out, acc("same", n))
	}
	return out
}

// plain is a book with nothing in it, of these accounts.
func plain(accounts ...string) []api.Balance {
	var out []api.Balance
	for _, s := range accounts {
		out = append(out, acc(s, 0))
	}
	return out
}

// rising are texts by their bytes: the empty one, ones that begin with another, that differ in the last byte alone, that are no UTF-8.
func rising() []string {
	return []string{"", "\x00", "\x00\x00", "\x00a", " ", "0", "A", "Z", "a", "a\x00", "a ", "a/", "a0", "aA", "aa", "aaa", "aab", "ab", "a\x7f", "a\x80", "a\xff", "b", "net", "net/", "net/a", "net/b", "net0", "owe", "owed", "owed\x00", "owee", "tax/", "tax/a", strings.Repeat("z", 99), strings.Repeat("z", 99) + "a", strings.Repeat("z", 100), "\x7f", "\x80", "\xc3", "\xc3\xa4", "\u00fc", "\ufffd", "\xff", "\xff\xff"}
}

// roomy is l with spare room that has fill in it.
func roomy[T any](l []T, fill T) []T {
	out := append(make([]T, 0, len(l)+5), l...)
	for i := len(l); i < cap(out); i++ {
		out[:cap(out)][i] = fill
	}
	return out
}

// entire is a copy of l with its spare room.
func entire[T any](l []T) []T { return slices.Clone(l[:cap(l)]) }

// spoil writes over l and its spare room.
func spoil(l []api.Balance) {
	for i := range l[:cap(l)] {
		l[:cap(l)][i] = acc("spoilt", 77)
	}
}

// wide is n as a number without bounds.
func wide(n int) *big.Int { return big.NewInt(int64(n)) }

// wantEntries is what the chapter says of Entries.
func wantEntries(t api.Total) ([]api.Balance, api.Errno) {
	out := rows(acc("owed", t.Gross))
	for _, p := range t.Parts {
		if p.Net == far || p.Tax == far {
			return nil, api.ErrOver
		}
		out = append(out, acc("net/"+p.Category, -p.Net), acc("tax/"+p.Category, -p.Tax))
	}
	return out, api.OK
}

// less goes byte by byte.
func less(a, b string) bool {
	for i := range min(len(a), len(b)) {
		if a[i] != b[i] {
			return a[i] < b[i]
		}
	}
	return len(a) < len(b)
}

// wantRight asks it of each pair, not of neighbours alone.
func wantRight(book []api.Balance) bool {
	for i := range book {
		for j := range i {
			if !less(book[j].Account, book[i].Account) {
				return false
			}
		}
	}
	return true
}

// wantEnter is what the chapter says of Enter, with accounts in a map and amounts without bounds.
func wantEnter(book, l []api.Balance) ([]api.Balance, api.Errno) {
	if !wantRight(book) {
		return nil, api.ErrArg
	}
	of := map[string]*big.Int{}
	for _, b := range book {
		of[b.Account] = wide(b.Amount)
	}
	for _, b := range l {
		if of[b.Account] == nil {
			of[b.Account] = new(big.Int)
		}
		if !of[b.Account].Add(of[b.Account], wide(b.Amount)).IsInt64() {
			return nil, api.ErrOver
		}
	}
	var out []api.Balance
	for _, s := range slices.Sorted(maps.Keys(of)) {
		out = append(out, acc(s, int(of[s].Int64())))
	}
	return out, api.OK
}

// all is the sum of the amounts, without a bound.
func all(l []api.Balance) *big.Int {
	sum := new(big.Int)
	for _, b := range l {
		sum.Add(sum, wide(b.Amount))
	}
	return sum
}

// wantBalanced is what the chapter says of Balanced.
func wantBalanced(l []api.Balance) bool { return all(l).Sign() == 0 }

// pick is one of l.
func pick[T any](draw *rand.Rand, l ...T) T { return l[draw.Intn(len(l))] }

// drawnAmount is small, at an edge, or any.
func drawnAmount(draw *rand.Rand) int {
	switch draw.Intn(6) {
	case 0:
		return int(draw.Uint64())
	case 1:
		return pick(draw, far, far+1, -1<<62, -1<<32, 1<<32, 1<<62, most-1, most)
	}
	return draw.Intn(2001) - 1000
}

// drawnRows are up to n, of few accounts, so that one comes several times.
func drawnRows(draw *rand.Rand, n int) []api.Balance {
	var l []api.Balance
	from := draw.Intn(len(rising()) - 8)
	for range draw.Intn(n + 1) {
		l = append(l, acc(pick(draw, rising()[from:from+8]...), drawnAmount(draw)))
	}
	return l
}

// drawnBook is mostly right; else two of its accounts are swapped, or one stands twice.
func drawnBook(draw *rand.Rand) []api.Balance {
	var book []api.Balance
	keep := 1 + draw.Intn(4)
	for _, s := range rising() {
		if draw.Intn(4) < keep {
			book = append(book, acc(s, drawnAmount(draw)))
		}
	}
	if len(book) > 1 && draw.Intn(8) == 0 {
		i, j := draw.Intn(len(book)), draw.Intn(len(book))
		book[i], book[j] = book[j], book[i]
	}
	if len(book) > 1 && draw.Intn(8) == 0 {
		at := 1 + draw.Intn(len(book)-1)
		book[at].Account = book[at-1].Account
	}
	return book
}

// drawnTotal is one of which nothing need fit together.
func drawnTotal(draw *rand.Rand) api.Total {
	t := total(drawnAmount(draw), drawnAmount(draw), drawnAmount(draw))
	for range draw.Intn(5) {
		t.Parts = append(t.Parts, api.Part{Category: pick(draw, rising()...), Bp: drawnAmount(draw), Net: drawnAmount(draw), Tax: drawnAmount(draw)})
	}
	return t
}
