package money

import (
	"math"
	"math/big"
	"math/rand"
	"regexp"
	"slices"
	"strconv"
	"strings"
	"testing"

	"impost/api"
)

// reckon is one of Add, Sub and Mul, beside what it must answer by numbers without bounds.
type reckon struct {
	name  string
	call  func(a, b int) (int, api.Errno)
	exact func(z, a, b *big.Int) *big.Int
}

func reckons() []reckon {
	return []reckon{
		{"Add", Add, (*big.Int).Add},
		{"Sub", Sub, (*big.Int).Sub},
		{"Mul", Mul, (*big.Int).Mul},
	}
}

// wide is n as a number without bounds.
func wide(n int) *big.Int { return big.NewInt(int64(n)) }

// narrow is what is asked of a call whose exact answer is n.
func narrow(n *big.Int) (int, api.Errno) {
	if !n.IsInt64() {
		return 0, api.ErrOver
	}
	return int(n.Int64()), api.OK
}

// edges are amounts at the ends, about the roots of the bounds, about powers of two and of ten, and small ones.
func edges() []int {
	all := []int{math.MinInt, math.MinInt + 1, math.MinInt + 2, math.MaxInt, math.MaxInt - 1, 3037000499, 3037000500, -3037000499, -3037000500}
	for n := -12; n <= 12; n++ {
		all = append(all, n)
	}
	for k := range 63 {
		for _, d := range []int{-1, 0, 1} {
			all = append(all, 1<<k+d, -(1<<k)+d)
		}
	}
	n := 1
	for range 18 {
		n *= 10
		all = append(all, n-1, n, n+1, -n-1, -n, -n+1)
	}
	slices.Sort(all)
	return slices.Compact(all)
}

// drawn is an amount of any length, so that small and great ones meet.
func drawn(draw *rand.Rand) int {
	return int(draw.Uint64()) >> draw.Intn(64)
}

// P4.1

func TestReckonsKnown(t *testing.T) {
	const most, least = math.MaxInt, math.MinInt
	runs := []struct {
		name string
		call func(a, b int) (int, api.Errno)
		a, b int
		want int
		e    api.Errno
	}{
		{"Add", Add, 2, 3, 5, api.OK}, {"Add", Add, 2, -5, -3, api.OK}, {"Add", Add, most, 1, 0, api.ErrOver},
		{"Add", Add, least, -1, 0, api.ErrOver}, {"Add", Add, least, most, -1, api.OK}, {"Add", Add, most - 1, 1, most, api.OK},
		{"Add", Add, least + 1, -1, least, api.OK}, {"Add", Add, least, least, 0, api.ErrOver}, {"Add", Add, most, most, 0, api.ErrOver},
		{"Sub", Sub, 5, 7, -2, api.OK}, {"Sub", Sub, 7, 5, 2, api.OK}, {"Sub", Sub, 0, least, 0, api.ErrOver},
		{"Sub", Sub, -1, least, most, api.OK}, {"Sub", Sub, -1, most, least, api.OK}, {"Sub", Sub, -2, most, 0, api.ErrOver},
		{"Sub", Sub, least, least, 0, api.OK}, {"Sub", Sub, least, 1, 0, api.ErrOver}, {"Sub", Sub, most, -1, 0, api.ErrOver},
		{"Mul", Mul, -3, 7, -21, api.OK}, {"Mul", Mul, -3, -7, 21, api.OK}, {"Mul", Mul, 0, least, 0, api.OK},
		{"Mul", Mul, least, -1, 0, api.ErrOver}, {"Mul", Mul, -1, least, 0, api.ErrOver}, {"Mul", Mul, least, 1, least, api.OK},
		{"Mul", Mul, most, -1, least + 1, api.OK}, {"Mul", Mul, least + 1, -1, most, api.OK},
		{"Mul", Mul, 1 << 32, -1 << 31, least, api.OK}, {"Mul", Mul, 1 << 32, 1 << 31, 0, api.ErrOver}, {"Mul", Mul, 1<<32 + 1, -1 << 31, 0, api.ErrOver},
		{"Mul", Mul, 1 << 32, 1 << 32, 0, api.ErrOver}, {"Mul", Mul, least, least, 0, api.ErrOver},
	}
	for _, r := range runs {
		if n, e := r.call(r.a, r.b); n != r.want || e != r.e {
			t.Errorf("%s(%d, %d) = %d, %d, not %d, %d", r.name, r.a, r.b, n, e, r.want, r.e)
		}
	}
}

// held holds one run of each call against its exact answer.
func held(t *testing.T, a, b int) {
	t.Helper()
	for _, r := range reckons() {
		want, wantE := narrow(r.exact(new(big.Int), wide(a), wide(b)))
		if n, e := r.call(a, b); n != want || e != wantE {
			t.Fatalf("%s(%d, %d) = %d, %d, not %d, %d", r.name, a, b, n, e, want, wantE)
		}
	}
}

func TestReckonsExactly(t *testing.T) {
	for _, a := range edges() {
		for _, b := range edges() {
			held(t, a, b)
		}
	}
	draw := rand.New(rand.NewSource(5))
	for range 200000 {
		held(t, drawn(draw), drawn(draw))
	}
}

func TestReckonsAtTheBounds(t *testing.T) {
	draw := rand.New(rand.NewSource(6))
	for range 20000 {
		b := drawn(draw)
		if b == 0 || b == -1 {
			continue
		}
		for _, bound := range []int{math.MaxInt, math.MinInt} {
			for d := -2; d <= 2; d++ {
				held(t, bound/b+d, b)
				held(t, b, bound/b+d)
			}
		}
	}
}

func TestSumKnown(t *testing.T) {
	const most, least = math.MaxInt, math.MinInt
	runs := []struct {
		l    []int
		want int
		e    api.Errno
	}{
		{nil, 0, api.OK}, {[]int{}, 0, api.OK}, {[]int{7}, 7, api.OK}, {[]int{least}, least, api.OK}, {[]int{most}, most, api.OK},
		{[]int{1, 2, -5}, -2, api.OK}, {[]int{0, 0, 0}, 0, api.OK},
		{[]int{most, 1, -1}, 0, api.ErrOver}, {[]int{most, -1, 1}, most, api.OK}, {[]int{1, most}, 0, api.ErrOver},
		{[]int{least, -1, 1}, 0, api.ErrOver}, {[]int{least, 1, -1}, least, api.OK}, {[]int{5, most, least}, 0, api.ErrOver},
		{[]int{most, least, 5}, 4, api.OK}, {[]int{most, most, 2}, 0, api.ErrOver}, {[]int{least, least}, 0, api.ErrOver},
		{[]int{1, 1, most, 4, 5}, 0, api.ErrOver},
	}
	for _, r := range runs {
		if n, e := Sum(r.l...); n != r.want || e != r.e {
			t.Errorf("Sum(%v) = %d, %d, not %d, %d", r.l, n, e, r.want, r.e)
		}
	}
	if n, e := Sum(); n != 0 || e != api.OK {
		t.Errorf("Sum() = %d, %d", n, e)
	}
	if n, e := Sum(1, 20, 300); n != 321 || e != api.OK {
		t.Errorf("Sum(1, 20, 300) = %d, %d", n, e)
	}
}

// added is what Sum must answer, by numbers without bounds that are asked step by step.
func added(l []int) (int, api.Errno) {
	all := new(big.Int)
	for _, n := range l {
		all.Add(all, wide(n))
		if !all.IsInt64() {
			return 0, api.ErrOver
		}
	}
	return int(all.Int64()), api.OK
}

// roomy is a copy of l with room behind it, whose filling is known.
func roomy(l []int) []int {
	whole := append(slices.Clone(l), slices.Repeat([]int{77}, 8)...)
	return whole[:len(l)]
}

// untouched tells whether what roomy made of l is still that.
func untouched(q, l []int) bool {
	room := q[:len(l)+8][len(l):]
	return slices.Equal(q, l) && slices.Equal(room, slices.Repeat([]int{77}, 8))
}

func TestSumExactlyAndUnchanged(t *testing.T) {
	draw := rand.New(rand.NewSource(7))
	ends := []int{math.MaxInt, math.MinInt, math.MaxInt - 1, math.MinInt + 1, -1, 0, 1}
	over, fine := 0, 0
	for range 50000 {
		l := make([]int, draw.Intn(7))
		for i := range l {
			l[i] = drawn(draw)
			if draw.Intn(3) == 0 {
				l[i] = ends[draw.Intn(len(ends))]
			}
		}
		q := roomy(l)
		want, wantE := added(l)
		if n, e := Sum(q...); n != want || e != wantE {
			t.Fatalf("Sum(%v) = %d, %d, not %d, %d", l, n, e, want, wantE)
		}
		if !untouched(q, l) {
			t.Fatalf("Sum(%v) changed what it was given", l)
		}
		if wantE == api.OK {
			fine++
		} else {
			over++
		}
	}
	if over < 1000 || fine < 1000 {
		t.Errorf("only %d too far, %d not", over, fine)
	}
}

// P4.2

func TestShowKnown(t *testing.T) {
	runs := map[int]string{
		0: "0.00", 5: "0.05", 10: "0.10", 99: "0.99", 100: "1.00", 101: "1.01", 110: "1.10", 999: "9.99", 1000: "10.00", 1230: "12.30",
		-1: "-0.01", -10: "-0.10", -99: "-0.99", -100: "-1.00", -101: "-1.01", -1230: "-12.30",
		math.MaxInt: "92233720368547758.07", math.MinInt: "-92233720368547758.08", math.MinInt + 1: "-92233720368547758.07",
		1234567: "12345.67", 100000000: "1000000.00",
	}
	for n, want := range runs {
		if s := Show(n); s != want {
			t.Errorf("Show(%d) = %q, not %q", n, s, want)
		}
	}
}

// shown is what Show must answer: the digits of n, at least three, with a point ahead of the last two.
func shown(n int) string {
	digits, minus := strings.CutPrefix(strconv.Itoa(n), "-")
	for len(digits) < 3 {
		digits = "0" + digits
	}
	s := digits[:len(digits)-2] + "." + digits[len(digits)-2:]
	if minus {
		return "-" + s
	}
	return s
}

// amounts are all small ones, the edges, and some drawn from a fixed seed, so that each run tests the same.
func amounts() []int {
	all := edges()
	for n := -12000; n <= 12000; n++ {
		all = append(all, n)
	}
	draw := rand.New(rand.NewSource(8))
	for range 50000 {
		all = append(all, drawn(draw))
	}
	return all
}

func TestShowAll(t *testing.T) {
	for _, n := range amounts() {
		if s := Show(n); s != shown(n) {
			t.Fatalf("Show(%d) = %q, not %q", n, s, shown(n))
		}
	}
}

// P4.3

func TestReadKnown(t *testing.T) {
	runs := map[string]int{
		"0.00": 0, "0.05": 5, "0.10": 10, "0.99": 99, "1.00": 100, "12.30": 1230, "100.00": 10000, "9.09": 909,
		"-0.01": -1, "-0.10": -10, "-1.00": -100, "-12.30": -1230, "-10.00": -1000,
		"92233720368547758.07": math.MaxInt, "92233720368547758.06": math.MaxInt - 1,
		"-92233720368547758.08": math.MinInt, "-92233720368547758.07": math.MinInt + 1,
	}
	for s, want := range runs {
		if n, e := Read(s); n != want || e != api.OK {
			t.Errorf("Read(%q) = %d, %d, not %d", s, n, e, want)
		}
	}
}

func TestReadRefuses(t *testing.T) {
	many := strings.Repeat("9", 100000)
	noughts := strings.Repeat("0", 100000)
	runs := map[string]api.Errno{
		// nothing, or no amount yet
		"": api.ErrForm, "-": api.ErrForm, ".": api.ErrForm, "-.": api.ErrForm, "0": api.ErrForm, "5": api.ErrForm, "123": api.ErrForm, "1234": api.ErrForm, "-5": api.ErrForm, "0.": api.ErrForm, "12.": api.ErrForm,
		// no digit ahead of the point
		".05": api.ErrForm, "-.05": api.ErrForm, "..05": api.ErrForm, "-..05": api.ErrForm,
		// noughts ahead
		"012.30": api.ErrForm, "00.00": api.ErrForm, "00.01": api.ErrForm, "-01.00": api.ErrForm, "-00.01": api.ErrForm, noughts + ".00": api.ErrForm, noughts + "1.00": api.ErrForm,
		// not two digits behind the point
		"1.5": api.ErrForm, "1.234": api.ErrForm, "-1.5": api.ErrForm, "-0.001": api.ErrForm, "1.2345": api.ErrForm, "100": api.ErrForm,
		// points
		"1..00": api.ErrForm, "1.0.0": api.ErrForm, "1.00.": api.ErrForm, "1.00.00": api.ErrForm, "1.0.": api.ErrForm, "1...": api.ErrForm, "1,00": api.ErrForm, "1:00": api.ErrForm, "1/00": api.ErrForm,
		// signs
		"+1.00": api.ErrForm, "+0.00": api.ErrForm, "--1.00": api.ErrForm, "-+1.00": api.ErrForm, "1-.00": api.ErrForm, "1.-0": api.ErrForm, "1.0-": api.ErrForm, "1.00-": api.ErrForm, "1.-05": api.ErrForm, "1.+5": api.ErrForm, "\u22121.00": api.ErrForm,
		// blanks
		" 1.00": api.ErrForm, "1.00 ": api.ErrForm, "1 .00": api.ErrForm, "1. 00": api.ErrForm, "- 1.00": api.ErrForm, "1.00\n": api.ErrForm, "\t1.00": api.ErrForm, "1.00\x00": api.ErrForm, "1 000.00": api.ErrForm,
		// no digits 0 to 9
		"a.00": api.ErrForm, "1a.00": api.ErrForm, "1.0a": api.ErrForm, "1.a0": api.ErrForm, "1e2.00": api.ErrForm, "0x1.00": api.ErrForm, "1_0.00": api.ErrForm, "/.00": api.ErrForm, ":.00": api.ErrForm, "1./0": api.ErrForm, "1.:0": api.ErrForm, "1.0/": api.ErrForm, "1.0:": api.ErrForm,
		"\u0661.00": api.ErrForm, "1.\u06633": api.ErrForm, "1.\u0663": api.ErrForm, "\uff11.00": api.ErrForm, "1.0\u0660": api.ErrForm, "\u0660.\u0660": api.ErrForm,
		// bytes that are no UTF-8
		"\xff.00": api.ErrForm, "1.\xff0": api.ErrForm, "1.0\xff": api.ErrForm, "1\x80.00": api.ErrForm, "\xff1.00": api.ErrForm, "1\xae00": api.ErrForm, "1.00\xff": api.ErrForm, "\xad1.00": api.ErrForm, "1.0\xd9": api.ErrForm, "\xc0\xb1.00": api.ErrForm, "1.\xb0\xb0": api.ErrForm,
		// nothing below 0
		"-0.00": api.ErrForm,
		// too far
		"92233720368547758.08": api.ErrOver, "92233720368547758.09": api.ErrOver, "92233720368547758.10": api.ErrOver, "92233720368547759.00": api.ErrOver, "922337203685477580.70": api.ErrOver,
		"-92233720368547758.09": api.ErrOver, "-92233720368547758.10": api.ErrOver, "-92233720368547759.00": api.ErrOver, "184467440737095516.16": api.ErrOver, "184467440737095516.17": api.ErrOver, "-184467440737095516.16": api.ErrOver, "100000000000000000.00": api.ErrOver, "-100000000000000000.00": api.ErrOver,
		many + ".00": api.ErrOver, "-" + many + ".99": api.ErrOver, "1" + noughts + ".00": api.ErrOver, "-1" + noughts + ".00": api.ErrOver,
		// too far, and no amount: the form is asked first
		many: api.ErrForm, many + ".0": api.ErrForm, many + ".000": api.ErrForm, "0" + many + ".00": api.ErrForm, many + "a.00": api.ErrForm, many + ".0a": api.ErrForm, "+" + many + ".00": api.ErrForm, "--" + many + ".00": api.ErrForm, many + ".00 ": api.ErrForm, many + ".00.00": api.ErrForm,
	}
	for s, want := range runs {
		if n, e := Read(s); n != 0 || e != want {
			t.Errorf("Read(%.40q), %d bytes = %d, %d, not %d", s, len(s), n, e, want)
		}
	}
}

var amount = regexp.MustCompile(`^-?(0|[1-9][0-9]*)\.[0-9][0-9]$`)

// told is what Read must answer.
func told(s string) (int, api.Errno) {
	if !amount.MatchString(s) || strings.HasSuffix(s, "\n") || s == "-0.00" {
		return 0, api.ErrForm
	}
	n, _ := new(big.Int).SetString(strings.ReplaceAll(s, ".", ""), 10)
	return narrow(n)
}

// readAs holds Read of s against what is asked.
func readAs(t *testing.T, s string) {
	t.Helper()
	want, wantE := told(s)
	if n, e := Read(s); n != want || e != wantE {
		t.Fatalf("Read(%q) = %d, %d, not %d, %d", s, n, e, want, wantE)
	}
}

// each hands over every text of at most n of signs.
func each(signs []string, n int, take func(string)) {
	take("")
	if n == 0 {
		return
	}
	for _, c := range signs {
		each(signs, n-1, func(s string) { take(c + s) })
	}
}

func TestReadEveryShortText(t *testing.T) {
	each([]string{"-", ".", "0", "1", "9", "a"}, 6, func(s string) { readAs(t, s) })
	each([]string{"-", ".", "0", "7", "/", ":", "+", " ", "\u0660", "\xff"}, 4, func(s string) { readAs(t, s) })
}

func TestReadEveryByteAtEveryPlace(t *testing.T) {
	for _, s := range []string{"0.00", "-0.05", "12.30", "-907.01", "92233720368547758.07", "-92233720368547758.08"} {
		for at := range len(s) {
			for c := range 256 {
				readAs(t, s[:at]+string([]byte{byte(c)})+s[at+1:])
				readAs(t, s[:at]+string([]byte{byte(c)})+s[at:])
			}
			readAs(t, s[:at]+s[at+1:])
			readAs(t, s[:at])
			readAs(t, s[at:])
		}
	}
}

func TestReadAboutTheEnds(t *testing.T) {
	over := 0
	for _, end := range []int{math.MaxInt, math.MinInt} {
		for d := int64(-500); d <= 500; d++ {
			digits, minus := strings.CutPrefix(new(big.Int).Add(wide(end), big.NewInt(d)).String(), "-")
			s := digits[:len(digits)-2] + "." + digits[len(digits)-2:]
			if minus {
				s = "-" + s
			}
			if _, e := told(s); e == api.ErrOver {
				over++
			}
			readAs(t, s)
		}
	}
	if over != 1000 {
		t.Errorf("%d too far, not 1000", over)
	}
}

// P4.4

func TestReadUndoesShow(t *testing.T) {
	for _, n := range amounts() {
		if m, e := Read(Show(n)); m != n || e != api.OK {
			t.Fatalf("Read(Show(%d)) = %d, %d", n, m, e)
		}
	}
}

func TestShowUndoesRead(t *testing.T) {
	taken := 0
	each([]string{"-", ".", "0", "1", "9", "a"}, 6, func(s string) {
		n, e := Read(s)
		if e != api.OK {
			return
		}
		taken++
		if Show(n) != s {
			t.Fatalf("Show(Read(%q)) = %q", s, Show(n))
		}
	})
	if taken < 200 {
		t.Errorf("only %d texts were taken", taken)
	}
}

func TestAddUndoesSub(t *testing.T) {
	for _, a := range edges() {
		for _, b := range edges() {
			less, e := Sub(a, b)
			if e != api.OK {
				continue
			}
			if n, e := Add(less, b); n != a || e != api.OK {
				t.Fatalf("Add(Sub(%d, %d), %d) = %d, %d", a, b, b, n, e)
			}
		}
	}
}

func TestMulEitherWay(t *testing.T) {
	for _, a := range edges() {
		for _, b := range edges() {
			n, e := Mul(a, b)
			if m, f := Mul(b, a); n != m || e != f {
				t.Fatalf("Mul(%d, %d) = %d, %d, the other way %d, %d", a, b, n, e, m, f)
			}
		}
	}
}

// Runs

func TestRuns(t *testing.T) {
	if a, b, c := Show(5), Show(-1230), Show(-1<<63); a != "0.05" || b != "-12.30" || c != "-92233720368547758.08" {
		t.Error(a, b, c)
	}
	type answer struct {
		n int
		e api.Errno
	}
	read := map[string]answer{
		"12.30": {1230, api.OK}, "012.30": {0, api.ErrForm}, "1.5": {0, api.ErrForm}, "-0.00": {0, api.ErrForm}, "92233720368547758.08": {0, api.ErrOver},
	}
	for s, want := range read {
		if n, e := Read(s); (answer{n, e}) != want {
			t.Errorf("Read(%q) = %d, %d", s, n, e)
		}
	}
	if n, e := Add(1<<63-1, 1); n != 0 || e != api.ErrOver {
		t.Error("Add", n, e)
	}
	if n, e := Sub(0, -1<<63); n != 0 || e != api.ErrOver {
		t.Error("Sub", n, e)
	}
	if n, e := Mul(-1<<63, -1); n != 0 || e != api.ErrOver {
		t.Error("Mul", n, e)
	}
	if n, e := Mul(1<<32, -1<<31); n != -1<<63 || e != api.OK {
		t.Error("Mul", n, e)
	}
}
