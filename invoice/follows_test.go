package invoice

import (
	"math/big"
	"math/rand"
	"slices"
	"testing"

	"impost/api"
)

// P11.3

// orders is every order of l.
func orders(l []api.Line) [][]api.Line {
	if len(l) == 0 {
		return [][]api.Line{nil}
	}
	var all [][]api.Line
	for i, first := range l {
		for _, rest := range orders(slices.Delete(slices.Clone(l), i, i+1)) {
			all = append(all, append([]api.Line{first}, rest...))
		}
	}
	return all
}

func TestEveryOrderOfLines(t *testing.T) {
	lines := []api.Line{line(3, 9, "food"), line(1, 50, "std"), line(2, -30, "food"), line(7, 11, "std"), line(meg, 1, "food"), line(1, -1, "std")}
	want, e := Total(chapter(), now(), lines)
	if e != api.OK {
		t.Fatal(e)
	}
	all := orders(lines)
	if len(all) != 720 {
		t.Fatal(len(all))
	}
	for _, l := range all {
		if got, e := Total(chapter(), now(), l); e != api.OK || !same(got, want) {
			t.Fatalf("%v: %v, %d, not %v", l, got, e, want)
		}
	}
}

// TestOrdersOfDrawn shuffles drawn lines: where both orders are told, they are told the same; some are told in one order alone.
func TestOrdersOfDrawn(t *testing.T) {
	draw := rand.New(rand.NewSource(116))
	both, one := 0, 0
	for range 30000 {
		table, d, lines := drawnCall(draw)
		a, e := Total(table, d, lines)
		draw.Shuffle(len(lines), func(i, j int) { lines[i], lines[j] = lines[j], lines[i] })
		b, f := Total(table, d, lines)
		switch {
		case e == api.OK && f == api.OK:
			both++
			if !same(a, b) {
				t.Fatalf("%v: %v or %v", lines, a, b)
			}
		case e == api.OK || f == api.OK:
			one++
		}
	}
	if both < 2000 || one < 20 {
		t.Error(both, one)
	}
}

// TestSums adds up the parts of drawn totals without a bound.
func TestSums(t *testing.T) {
	draw := rand.New(rand.NewSource(117))
	seen := 0
	for range 20000 {
		a, e := Total(drawnCall(draw))
		if e != api.OK {
			continue
		}
		seen++
		net, tax := new(big.Int), new(big.Int)
		for i, p := range a.Parts {
			net.Add(net, big.NewInt(int64(p.Net)))
			tax.Add(tax, big.NewInt(int64(p.Tax)))
			if i > 0 && a.Parts[i-1].Category >= p.Category {
				t.Fatalf("parts that don't rise: %v", a)
			}
		}
		gross := new(big.Int).Add(net, tax)
		if net.Cmp(big.NewInt(int64(a.Net))) != 0 || tax.Cmp(big.NewInt(int64(a.Tax))) != 0 || gross.Cmp(big.NewInt(int64(a.Gross))) != 0 {
			t.Fatalf("%v: %v, %v, %v", a, net, tax, gross)
		}
	}
	if seen < 2000 {
		t.Error(seen)
	}
}

func TestBackOfBack(t *testing.T) {
	draw := rand.New(rand.NewSource(118))
	seen := 0
	for range 20000 {
		a := drawnTotal(draw)
		b, e := Back(a)
		if e != api.OK {
			continue
		}
		seen++
		if c, e := Back(b); e != api.OK || !same(c, a) {
			t.Fatalf("Back of Back of %v: %v, %d", a, c, e)
		}
	}
	if seen < 2000 {
		t.Error(seen)
	}
}

// TestBackIsOfTheLinesTakenBack: lines whose prices have the other sign come to what takes the total back.
func TestBackIsOfTheLinesTakenBack(t *testing.T) {
	draw := rand.New(rand.NewSource(119))
	seen := 0
	for range 20000 {
		table, d, lines := drawnCall(draw)
		a, e := Total(table, d, lines)
		least := false
		for i := range lines {
			least = least || lines[i].Price == far
			lines[i].Price = -lines[i].Price
		}
		b, f := Total(table, d, lines)
		back, g := Back(a)
		if least || e != api.OK || f != api.OK || g != api.OK {
			continue
		}
		seen++
		if !same(b, back) {
			t.Fatalf("%v: %v, not %v", lines, b, back)
		}
	}
	if seen < 2000 {
		t.Error(seen)
	}
}
