package rate

import (
	"math"
	"math/big"
	"math/rand"
	"slices"
	"testing"

	"impost/api"
)

const (
	most = math.MaxInt
	far  = math.MinInt
)

// taking is Tax or Within, beside how many parts the amount has in it at a rate.
type taking struct {
	name string
	call func(n, bp int) (int, api.Errno)
	all  func(bp int) int
}

func takings() []taking {
	return []taking{
		{"Tax", Tax, func(int) int { return 10000 }},
		{"Within", Within, func(bp int) int { return 10000 + bp }},
	}
}

// run is one call and what it must answer.
type run struct {
	name  string
	call  func(n, bp int) (int, api.Errno)
	n, bp int
	want  int
	e     api.Errno
}

func hold(t *testing.T, runs []run) {
	t.Helper()
	for _, r := range runs {
		if s, e := r.call(r.n, r.bp); s != r.want || e != r.e {
			t.Errorf("%s(%d, %d) = %d, %d, not %d, %d", r.name, r.n, r.bp, s, e, r.want, r.e)
		}
	}
}

// wide is n as a number without bounds.
func wide(n int) *big.Int { return big.NewInt(int64(n)) }

// exact is the share by numbers without bounds: the greatest whole number not above |n| * bp / all + 1/2, with n's sign.
func exact(n, bp, all int) (int, api.Errno) {
	above := new(big.Int).Mul(new(big.Int).Abs(wide(n)), wide(2*bp))
	above.Add(above, wide(all))
	s := above.Div(above, wide(2*all))
	if !s.IsInt64() {
		return 0, api.ErrOver
	}
	if n < 0 {
		s.Neg(s)
	}
	return int(s.Int64()), api.OK
}

// held holds one run of each call against its exact answer.
func held(t *testing.T, n, bp int) {
	t.Helper()
	for _, k := range takings() {
		want, wantE := exact(n, bp, k.all(bp))
		if s, e := k.call(n, bp); s != want || e != wantE {
			t.Fatalf("%s(%d, %d) = %d, %d, not %d, %d", k.name, n, bp, s, e, want, wantE)
		}
	}
}

// rates are those at the edges, those of the trade, and those at which halves are met.
func rates() []int {
	return []int{0, 1, 2, 3, 99, 100, 101, 700, 1900, 2000, 2500, 4999, 5000, 5001, 9998, 9999, 10000, 10001, 10002, 15000, 19999, 20000, 20001, 49999, 50000, 99998, 99999, api.MaxBp}
}

// edges are amounts at the ends, about powers of two and of ten, and small ones.
func edges() []int {
	all := []int{far, far + 1, far + 2, most, most - 1}
	for n := -120; n <= 120; n++ {
		all = append(all, n)
	}
	for k := range 63 {
		for d := -2; d <= 2; d++ {
			all = append(all, 1<<k+d, -(1<<k)+d)
		}
	}
	n := 1
	for range 18 {
		n *= 10
		for d := -2; d <= 2; d++ {
			all = append(all, n+d, -n+d)
		}
	}
	slices.Sort(all)
	return slices.Compact(all)
}

// drawn is an amount of any length, so that small and great ones are met.
func drawn(draw *rand.Rand) int {
	return int(draw.Uint64()) >> draw.Intn(64)
}

// drawnRate is any rate.
func drawnRate(draw *rand.Rand) int {
	return draw.Intn(api.MaxBp + 1)
}

func TestRuns(t *testing.T) {
	hold(t, []run{
		{"Tax", Tax, 100, 1900, 19, api.OK}, {"Tax", Tax, 50, 100, 1, api.OK}, {"Tax", Tax, 49, 100, 0, api.OK},
		{"Tax", Tax, -50, 100, -1, api.OK}, {"Tax", Tax, most, 10000, most, api.OK},
		{"Tax", Tax, 1, 100001, 0, api.ErrArg}, {"Tax", Tax, 1 << 62, 20001, 0, api.ErrOver}, {"Tax", Tax, far, 10000, 0, api.ErrOver},
		{"Within", Within, 119, 1900, 19, api.OK}, {"Within", Within, -119, 1900, -19, api.OK}, {"Within", Within, 1, 10000, 1, api.OK},
	})
}

// P5.1

func TestTaxAtTheEdges(t *testing.T) {
	const over = far
	amounts := []int{0, 1, -1, most, -most, far}
	for _, row := range []struct {
		bp     int
		shares []int
	}{
		{0, []int{0, 0, 0, 0, 0, 0}},
		{1, []int{0, 0, 0, 922337203685478, -922337203685478, -922337203685478}},
		{9999, []int{0, 1, -1, 9222449699651090329, -9222449699651090329, -9222449699651090330}},
		{10000, []int{0, 1, -1, most, -most, over}},
		{10001, []int{0, 1, -1, over, over, over}},
		{api.MaxBp, []int{0, 10, -10, over, over, over}},
	} {
		for i, want := range row.shares {
			wantE := api.OK
			if want == over {
				want, wantE = 0, api.ErrOver
			}
			hold(t, []run{{"Tax", Tax, amounts[i], row.bp, want, wantE}})
		}
	}
}

func TestTaxOfHalves(t *testing.T) {
	hold(t, []run{
		{"just a half", Tax, 1, 5000, 1, api.OK}, {"just a half", Tax, -1, 5000, -1, api.OK},
		{"just less", Tax, 1, 4999, 0, api.OK}, {"just less", Tax, -1, 4999, 0, api.OK},
		{"just more", Tax, 1, 5001, 1, api.OK}, {"just more", Tax, -1, 5001, -1, api.OK},
		{"just a half", Tax, 5000, 1, 1, api.OK}, {"just a half", Tax, -5000, 1, -1, api.OK},
		{"just less", Tax, 4999, 1, 0, api.OK}, {"just less", Tax, -4999, 1, 0, api.OK},
		{"just more", Tax, 5001, 1, 1, api.OK}, {"just more", Tax, -5001, 1, -1, api.OK},
		{"one and a half", Tax, 3, 5000, 2, api.OK}, {"one and a half", Tax, -3, 5000, -2, api.OK},
		{"just less", Tax, 14999, 1, 1, api.OK}, {"just less", Tax, -14999, 1, -1, api.OK},
		{"two and a half", Tax, 5, 5000, 3, api.OK}, {"two and a half", Tax, -5, 5000, -3, api.OK},
		{"a half of a great one", Tax, most, 5000, 1 << 62, api.OK}, {"a half of a great one", Tax, -most, 5000, -1 << 62, api.OK},
	})
}

func TestTaxAtTheBounds(t *testing.T) {
	const third = 6148914691236517205 // one and a half times this are 2^63 - 1/2
	hold(t, []run{
		{"just the greatest", Tax, most, 10000, most, api.OK}, {"just the least", Tax, -most, 10000, -most, api.OK},
		{"one more", Tax, far, 10000, 0, api.ErrOver}, {"two times", Tax, 1 << 62, 20000, 0, api.ErrOver}, {"two times", Tax, -1 << 62, 20000, 0, api.ErrOver},
		{"two times less", Tax, 1<<62 - 1, 20000, most - 1, api.OK}, {"two times less", Tax, 1 - 1<<62, 20000, 1 - most, api.OK},
		{"rounded up to it", Tax, 9222449791875588248, 10001, most, api.OK}, {"rounded up to it", Tax, -9222449791875588248, 10001, -most, api.OK},
		{"next to that", Tax, 9222449791875588249, 10001, 0, api.ErrOver}, {"next to that", Tax, -9222449791875588249, 10001, 0, api.ErrOver},
		{"rounded down to it", Tax, 7471342273677420662, 12345, most, api.OK}, {"rounded down to it", Tax, -7471342273677420662, 12345, -most, api.OK},
		{"next to that", Tax, 7471342273677420663, 12345, 0, api.ErrOver}, {"next to that", Tax, -7471342273677420663, 12345, 0, api.ErrOver},
		{"a half above", Tax, third, 15000, 0, api.ErrOver}, {"a half above", Tax, -third, 15000, 0, api.ErrOver},
		{"less than that", Tax, third - 1, 15000, most - 1, api.OK}, {"less than that", Tax, 1 - third, 15000, 1 - most, api.OK},
		{"ten times", Tax, 922337203685477580, api.MaxBp, 9223372036854775800, api.OK}, {"ten times", Tax, -922337203685477580, api.MaxBp, -9223372036854775800, api.OK},
		{"next to that", Tax, 922337203685477581, api.MaxBp, 0, api.ErrOver}, {"next to that", Tax, -922337203685477581, api.MaxBp, 0, api.ErrOver},
	})
}

// TestTaxAtEachRatesBound asks at every rate above the whole for the greatest amount whose share fits, and for the next.
func TestTaxAtEachRatesBound(t *testing.T) {
	room := new(big.Int).Lsh(big.NewInt(1), 64)
	room.Sub(room, big.NewInt(1)).Mul(room, big.NewInt(10000)).Sub(room, big.NewInt(1))
	for bp := 10001; bp <= api.MaxBp; bp++ {
		last := int(new(big.Int).Div(room, wide(2*bp)).Int64())
		for _, n := range []int{last, -last} {
			if _, e := Tax(n, bp); e != api.OK {
				t.Fatalf("Tax(%d, %d): %d", n, bp, e)
			}
			held(t, n, bp)
		}
		for _, n := range []int{last + 1, -last - 1} {
			if s, e := Tax(n, bp); s != 0 || e != api.ErrOver {
				t.Fatalf("Tax(%d, %d) = %d, %d", n, bp, s, e)
			}
		}
	}
}

// P5.2

func TestWithinAtTheEdges(t *testing.T) {
	amounts := []int{0, 1, -1, most, -most, far}
	for _, row := range []struct {
		bp     int
		shares []int
	}{
		{0, []int{0, 0, 0, 0, 0, 0}},
		{1, []int{0, 0, 0, 922244979187559, -922244979187559, -922244979187559}},
		{9999, []int{0, 0, 0, 4611455422596674998, -4611455422596674998, -4611455422596674999}},
		{10000, []int{0, 1, -1, 1 << 62, -1 << 62, -1 << 62}},
		{10001, []int{0, 1, -1, 4611916591199670659, -4611916591199670659, -4611916591199670659}},
		{api.MaxBp, []int{0, 1, -1, 8384883669867978006, -8384883669867978006, -8384883669867978007}},
	} {
		for i, want := range row.shares {
			hold(t, []run{{"Within", Within, amounts[i], row.bp, want, api.OK}})
		}
	}
}

func TestWithinOfHalves(t *testing.T) {
	hold(t, []run{
		{"just a half", Within, 1, 10000, 1, api.OK}, {"just a half", Within, -1, 10000, -1, api.OK},
		{"just less", Within, 1, 9999, 0, api.OK}, {"just less", Within, -1, 9999, 0, api.OK},
		{"just more", Within, 1, 10001, 1, api.OK}, {"just more", Within, -1, 10001, -1, api.OK},
		{"a half, a sixth each", Within, 3, 2000, 1, api.OK}, {"a half, a sixth each", Within, -3, 2000, -1, api.OK},
		{"less", Within, 2, 2000, 0, api.OK}, {"less", Within, -2, 2000, 0, api.OK},
		{"one and a half", Within, 9, 2000, 2, api.OK}, {"one and a half", Within, -9, 2000, -2, api.OK},
		{"less", Within, 8, 2000, 1, api.OK}, {"less", Within, -8, 2000, -1, api.OK},
		{"parts of an odd number, just less", Within, 5000, 1, 0, api.OK}, {"just more", Within, 5001, 1, 1, api.OK},
		{"parts of an odd number, just less", Within, -5000, 1, 0, api.OK}, {"just more", Within, -5001, 1, -1, api.OK},
	})
}

// Both

func TestSharesOfWrongRates(t *testing.T) {
	for _, k := range takings() {
		for _, n := range []int{0, 1, -1, 119, most, -most, far} {
			for _, bp := range []int{-1, -2, -1900, -10000, api.MaxBp + 1, api.MaxBp + 2, 1 << 32, 1<<32 + 1900, -1<<32 + 1900, far, far + 1, most, most - 1} {
				if s, e := k.call(n, bp); s != 0 || e != api.ErrArg {
					t.Errorf("%s(%d, %d) = %d, %d", k.name, n, bp, s, e)
				}
			}
		}
	}
}

func TestSharesExactly(t *testing.T) {
	for _, n := range edges() {
		for _, bp := range rates() {
			held(t, n, bp)
		}
	}
	draw := rand.New(rand.NewSource(5))
	for range 200000 {
		held(t, drawn(draw), drawnRate(draw))
	}
}

// TestSharesAtEachRate goes through all rates, with amounts so small that the promise's own words can be reckoned plainly.
func TestSharesAtEachRate(t *testing.T) {
	for bp := range api.MaxBp + 1 {
		for _, k := range takings() {
			all := k.all(bp)
			for n := range 25 {
				s, e := k.call(n, bp)
				if e != api.OK || 2*all*s > 2*n*bp+all || 2*all*(s+1) <= 2*n*bp+all {
					t.Fatalf("%s(%d, %d) = %d, %d", k.name, n, bp, s, e)
				}
			}
		}
	}
}

// P5.3

// near tells whether s is off from n * bp / 10000 by a half at most.
func near(s, n, bp int) bool {
	off := new(big.Int).Mul(wide(s), wide(10000))
	off.Sub(off, new(big.Int).Mul(wide(n), wide(bp)))
	return off.Abs(off).Cmp(wide(5000)) <= 0
}

func TestTaxIsOffByAHalfAtMost(t *testing.T) {
	ask := func(n, bp int) {
		if s, e := Tax(n, bp); e == api.OK && !near(s, n, bp) {
			t.Fatalf("Tax(%d, %d) = %d", n, bp, s)
		}
	}
	for _, n := range edges() {
		for _, bp := range rates() {
			ask(n, bp)
		}
	}
	draw := rand.New(rand.NewSource(6))
	for range 100000 {
		ask(drawn(draw), drawnRate(draw))
	}
}

func TestSharesOnTheOtherSide(t *testing.T) {
	ask := func(n, bp int) {
		if n == far {
			return
		}
		for _, k := range takings() {
			s, e := k.call(n, bp)
			o, f := k.call(-n, bp)
			if o != -s || f != e {
				t.Fatalf("%s of %d and %d at %d: %d, %d, and %d, %d", k.name, n, -n, bp, s, e, o, f)
			}
		}
	}
	for _, n := range edges() {
		for _, bp := range rates() {
			ask(n, bp)
		}
	}
	draw := rand.New(rand.NewSource(7))
	for range 100000 {
		ask(drawn(draw), drawnRate(draw))
	}
}

// grows tells whether Tax of the second is not less than that of the first: what goes too far is above all that doesn't.
func grows(n, bp, n2, bp2 int) bool {
	s, e := Tax(n, bp)
	s2, e2 := Tax(n2, bp2)
	if e != api.OK || e2 != api.OK {
		return e2 == api.ErrOver
	}
	return s <= s2
}

func TestTaxGrows(t *testing.T) {
	ask := func(n, bp, n2, bp2 int) {
		if !grows(n, bp, n2, bp2) {
			t.Fatalf("Tax(%d, %d) is above Tax(%d, %d)", n, bp, n2, bp2)
		}
	}
	amounts := slices.DeleteFunc(edges(), func(n int) bool { return n < 0 })
	for i, n := range amounts {
		for j, bp := range rates() {
			if i > 0 {
				ask(amounts[i-1], bp, n, bp)
			}
			if j > 0 {
				ask(n, rates()[j-1], n, bp)
			}
		}
	}
	draw := rand.New(rand.NewSource(8))
	for range 100000 {
		n, bp := int(uint(drawn(draw))>>1), drawnRate(draw)
		more, rise := int(uint(drawn(draw))>>1), drawnRate(draw)
		ask(min(n, more), bp, max(n, more), bp)
		ask(n, min(bp, rise), n, max(bp, rise))
		ask(n, bp, n+min(1, most-n), bp)
		ask(n, bp, n, min(bp+1, api.MaxBp))
	}
}

// left holds what Within takes out of n against the Tax of what is left.
func left(t *testing.T, n, bp int) {
	t.Helper()
	out, e := Within(n, bp)
	if e != api.OK || out < 0 || out > n {
		t.Fatalf("Within(%d, %d) = %d, %d", n, bp, out, e)
	}
	tax, f := Tax(n-out, bp)
	if f != api.OK || tax-out > 1 || out-tax > 1 {
		t.Fatalf("Within(%d, %d) = %d, Tax(%d, %d) = %d, %d", n, bp, out, n-out, bp, tax, f)
	}
}

func TestWithinLeavesWhatIsTaxed(t *testing.T) {
	for n := range 300 {
		for bp := 0; bp <= 10000; bp += 1 + n%7 {
			left(t, n, bp)
		}
	}
	for _, n := range edges() {
		for _, bp := range rates() {
			if n >= 0 && bp <= 10000 {
				left(t, n, bp)
			}
		}
	}
	draw := rand.New(rand.NewSource(9))
	for range 100000 {
		left(t, int(uint(drawn(draw))>>1), draw.Intn(10001))
	}
}
