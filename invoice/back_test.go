package invoice

import (
	"math/rand"
	"slices"
	"testing"

	"impost/api"
)

// P11.2

func TestBack(t *testing.T) {
	for i, c := range []struct{ of, want api.Total }{
		{total(350, 25, 375, part("food", 500, 300, 15), part("std", 1900, 50, 10)), total(-350, -25, -375, part("food", 500, -300, -15), part("std", 1900, -50, -10))},
		{total(-100, -19, -119, part("std", 1900, -100, -19)), total(100, 19, 119, part("std", 1900, 100, 19))},
		{api.Total{}, api.Total{}}, {api.Total{Parts: []api.Part{}}, api.Total{}}, {total(0, 0, 0, part("a", 0, 0, 0)), total(0, 0, 0, part("a", 0, 0, 0))},
		{total(7, -8, 9), total(-7, 8, -9)},
		{total(1, 2, 4, part("z", -1, 5, -6), part("", most, 0, 0), part("z", far, most, -most), part("a\xff", 3, -1, 1)), total(-1, -2, -4, part("z", -1, -5, 6), part("", most, 0, 0), part("z", far, -most, most), part("a\xff", 3, 1, -1))},
		{total(most, most, most), total(far+1, far+1, far+1)}, {total(far+1, far+1, far+1), total(most, most, most)},
		{total(0, 0, 0, part("a", 0, most, far+1)), total(0, 0, 0, part("a", 0, far+1, most))},
	} {
		if got, e := Back(c.of); e != api.OK || !same(got, c.want) {
			t.Errorf("%d: %v, %d, not %v", i, got, e, c.want)
		}
	}
}

// TestBackOfTheLeast sets each amount to the least int, one at a time, and two at a time.
func TestBackOfTheLeast(t *testing.T) {
	spoils := []func(t *api.Total){func(t *api.Total) { t.Net = far }, func(t *api.Total) { t.Tax = far }, func(t *api.Total) { t.Gross = far }}
	for at := range 4 {
		spoils = append(spoils, func(t *api.Total) { t.Parts[at].Net = far }, func(t *api.Total) { t.Parts[at].Tax = far })
	}
	for i, spoil := range spoils {
		for j, ruin := range spoils {
			a := total(1, 2, 3, part("a", 1, 4, 5), part("b", 2, 6, 7), part("c", 3, 8, 9), part("d", 4, 10, 11))
			spoil(&a)
			ruin(&a)
			if got, e := Back(a); e != api.ErrOver || !same(got, api.Total{}) {
				t.Errorf("%d, %d: %v, %d", i, j, got, e)
			}
		}
	}
	if got, e := Back(total(0, 0, 0, part("a", far, 0, 0))); e != api.OK || got.Parts[0].Bp != far {
		t.Error("a Bp is no amount:", got, e)
	}
}

// TestBackOfManyParts has more parts than any invoice.
func TestBackOfManyParts(t *testing.T) {
	for _, n := range []int{1, 12, 13, 1000} {
		a := total(1, 1, 1)
		for i := range n {
			a.Parts = append(a.Parts, part("a", i, i, -i))
		}
		want, _ := wantBack(a)
		if got, e := Back(a); e != api.OK || !same(got, want) {
			t.Errorf("%d parts: %v, %d", n, got, e)
		}
	}
}

func TestBackOfDrawn(t *testing.T) {
	draw := rand.New(rand.NewSource(114))
	seen := [2]int{}
	for range 20000 {
		a := drawnTotal(draw)
		want, why := wantBack(a)
		got, e := Back(a)
		if e != why || !same(got, want) {
			t.Fatalf("Back(%v) = %v, %d, not %v, %d", a, got, e, want, why)
		}
		if e == api.OK {
			seen[0]++
		} else {
			seen[1]++
		}
	}
	if min(seen[0], seen[1]) < 2000 {
		t.Error(seen)
	}
}

// TestBackLeavesWhatIsHandedIn: R2, for answers and for refusals at any part, and R5.
func TestBackLeavesWhatIsHandedIn(t *testing.T) {
	draw := rand.New(rand.NewSource(115))
	for range 3000 {
		a := drawnTotal(draw)
		want, why := wantBack(a)
		a.Parts = roomy(a.Parts, part("spare", 1, far, far))
		old, keep := a, entire(a.Parts)
		got, e := Back(a)
		if e != why || !same(got, want) {
			t.Fatalf("with spare room: %v, %d, not %v", got, e, want)
		}
		clear(got.Parts[:cap(got.Parts)])
		if !same(a, old) || !slices.Equal(entire(a.Parts), keep) {
			t.Fatal("what was handed in is another")
		}
	}
}

// TestBackIsNew: two answers share no memory, and none changes with what was handed in.
func TestBackIsNew(t *testing.T) {
	a := total(1, 2, 3, part("a", 1, 4, 5), part("b", 2, 6, 7))
	one, _ := Back(a)
	two, _ := Back(a)
	keep := entire(one.Parts)
	for i := range two.Parts[:cap(two.Parts)] {
		two.Parts[:cap(two.Parts)][i] = part("other", 9, 9, 9)
	}
	a.Parts[0] = part("other", 9, 9, 9)
	if !slices.Equal(entire(one.Parts), keep) {
		t.Error("the first answer became", one)
	}
}
