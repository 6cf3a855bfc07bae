package date

import (
	"fmt"
	"math"
	"strings"
	"testing"
	"time"

	"impost/api"
)

const (
	most = math.MaxInt
	far  = math.MinInt
	all  = 3652059
)

func day(y, m, d int) api.Date { return api.Date{Y: y, M: m, D: d} }

// lengths are those of the months of a year without a leap day.
func lengths() [12]int { return [12]int{31, 28, 31, 30, 31, 30, 31, 31, 30, 31, 30, 31} }

// isDay is the chapter's sentence, asked by a list of lengths.
func isDay(d api.Date) bool {
	if d.Y < 1 || d.Y > 9999 || d.M < 1 || d.M > 12 {
		return false
	}
	last := lengths()[d.M-1]
	if d.M == 2 && (d.Y%400 == 0 || d.Y%4 == 0 && d.Y%100 != 0) {
		last = 29
	}
	return d.D >= 1 && d.D <= last
}

// walk goes through all days in their order, each with its number, by the lengths alone.
func walk(step func(n int, d api.Date)) int {
	n := 0
	for y := 1; y <= 9999; y++ {
		for m := 1; m <= 12; m++ {
			for d := 1; isDay(day(y, m, d)); d++ {
				step(n, day(y, m, d))
				n++
			}
		}
	}
	return n
}

// strange are numbers that no field of a day may have; some of them would be right if their upper bits were lost.
func strange() []int {
	return []int{far, far + 1, -1 << 32, -1<<32 + 1, -10000, -2024, -12, -4, -2, -1, 0, 10000, 10001, 1<<16 + 2, 1<<32 + 1, 1<<32 + 2, 1<<32 + 2024, 1<<62 + 2, most - 1, most}
}

// wrong are days that aren't right, each of another kind.
func wrong() []api.Date {
	days := []api.Date{
		{}, day(0, 1, 1), day(0, 12, 31), day(0, 2, 29), day(10000, 1, 1), day(10000, 2, 29), day(-1, 1, 1), day(-2024, 2, 29),
		day(2026, 0, 1), day(2026, 13, 1), day(2026, 1, 0), day(2026, 12, 0), day(2026, 1, 32), day(2026, 12, 32), day(2026, 4, 31), day(2026, 2, 29), day(2024, 2, 30),
		day(1900, 2, 29), day(100, 2, 29), day(2000, 2, 30), day(1, 2, 29), day(9999, 2, 29), day(9999, 12, 32), day(9999, 13, 1), day(1, 1, 0), day(1, 0, 1), day(1, 0, 31),
	}
	for _, n := range strange() {
		days = append(days, day(n, 1, 1), day(n, 12, 31), day(2024, n, 1), day(2024, n, 29), day(1, 1, n), day(2024, 2, n), day(9999, 12, n), day(n, n, n))
	}
	return days
}

// some are right days at the edges of years and of months, and about leap days.
func some() []api.Date {
	var days []api.Date
	for _, y := range []int{1, 2, 3, 4, 5, 99, 100, 101, 399, 400, 401, 1899, 1900, 1999, 2000, 2001, 2023, 2024, 2026, 9996, 9998, 9999} {
		for _, m := range []int{1, 2, 3, 4, 9, 10, 11, 12} {
			for _, d := range []int{1, 2, 9, 10, 28, 29, 30, 31} {
				if isDay(day(y, m, d)) {
					days = append(days, day(y, m, d))
				}
			}
		}
	}
	return days
}

func TestRuns(t *testing.T) {
	for _, r := range []struct {
		d    api.Date
		want int
	}{{day(1, 1, 1), 0}, {day(2000, 2, 29), 730178}, {day(9999, 12, 31), 3652058}, {day(1900, 2, 29), -1}} {
		if n := Days(r.d); n != r.want {
			t.Errorf("Days(%v) = %d, not %d", r.d, n, r.want)
		}
	}
	if d, ok := Of(0); d != day(1, 1, 1) || !ok {
		t.Errorf("Of(0) = %v, %v", d, ok)
	}
	for _, n := range []int{3652059, -1} {
		if d, ok := Of(n); d != (api.Date{}) || ok {
			t.Errorf("Of(%d) = %v, %v", n, d, ok)
		}
	}
	if s := Show(day(2026, 11, 5)); s != "2026-11-05" {
		t.Errorf("Show: %q", s)
	}
	if d, e := Read("2026-11-31"); d != (api.Date{}) || e != api.ErrDate {
		t.Errorf("Read: %v, %d", d, e)
	}
	if d, e := Read("2026-1-05"); d != (api.Date{}) || e != api.ErrForm {
		t.Errorf("Read: %v, %d", d, e)
	}
}

// P6.1

func TestRightAtTheEdges(t *testing.T) {
	runs := map[api.Date]bool{
		day(0, 1, 1): false, day(0, 12, 31): false, day(1, 1, 1): true, day(9999, 12, 31): true, day(10000, 1, 1): false, day(10000, 12, 31): false,
		day(2026, 0, 1): false, day(2026, 1, 1): true, day(2026, 12, 1): true, day(2026, 13, 1): false,
		day(2026, 1, 0): false, day(2026, 2, 0): false, day(2026, 4, 0): false, day(2026, 12, 0): false,
	}
	for d, want := range runs {
		if Right(d) != want {
			t.Errorf("Right(%v) = %v", d, !want)
		}
	}
}

func TestRightAtTheEndsOfMonths(t *testing.T) {
	for i, last := range [12]int{31, 28, 31, 30, 31, 30, 31, 31, 30, 31, 30, 31} {
		for _, y := range []int{1, 1900, 2026, 9999} {
			m := i + 1
			if Right(day(y, m, 0)) || !Right(day(y, m, 1)) || !Right(day(y, m, last)) || Right(day(y, m, last+1)) {
				t.Errorf("the month %d of %d: %v %v %v %v", m, y, Right(day(y, m, 0)), Right(day(y, m, 1)), Right(day(y, m, last)), Right(day(y, m, last+1)))
			}
		}
	}
}

func TestRightInLeapYears(t *testing.T) {
	runs := map[int]bool{
		1: false, 2: false, 3: false, 4: true, 5: false, 8: true, 96: true, 99: false, 100: false, 104: true, 200: false, 300: false, 399: false, 400: true, 401: false,
		800: true, 1600: true, 1700: false, 1800: false, 1900: false, 1904: true, 1996: true, 2000: true, 2001: false, 2002: false, 2003: false, 2004: true,
		2023: false, 2024: true, 2026: false, 2100: false, 2400: true, 9600: true, 9900: false, 9996: true, 9999: false,
	}
	for y, want := range runs {
		if !Right(day(y, 2, 28)) || Right(day(y, 2, 29)) != want || Right(day(y, 2, 30)) {
			t.Errorf("the month 2 of %d: %v %v %v", y, Right(day(y, 2, 28)), Right(day(y, 2, 29)), Right(day(y, 2, 30)))
		}
	}
}

func TestRightAll(t *testing.T) {
	for y := -401; y <= 10401; y++ {
		for m := -2; m <= 15; m++ {
			for d := -2; d <= 34; d++ {
				if Right(day(y, m, d)) != isDay(day(y, m, d)) {
					t.Fatalf("Right(%d, %d, %d) = %v", y, m, d, Right(day(y, m, d)))
				}
			}
		}
	}
}

func TestRightOfWrongDays(t *testing.T) {
	for _, d := range wrong() {
		if Right(d) {
			t.Errorf("Right(%v)", d)
		}
	}
}

// P6.2

func TestDaysKnown(t *testing.T) {
	for d, want := range map[api.Date]int{
		day(1, 1, 1): 0, day(1, 1, 2): 1, day(1, 1, 31): 30, day(1, 2, 1): 31, day(1, 2, 28): 58, day(1, 3, 1): 59, day(1, 12, 31): 364, day(2, 1, 1): 365,
		day(4, 1, 1): 1095, day(4, 2, 28): 1153, day(4, 2, 29): 1154, day(4, 3, 1): 1155, day(4, 12, 31): 1460, day(5, 1, 1): 1461,
		day(100, 12, 31): 36523, day(101, 1, 1): 36524, day(400, 2, 29): 145790, day(400, 12, 31): 146096, day(401, 1, 1): 146097,
		day(1970, 1, 1): 719162, day(2000, 1, 1): 730119, day(2024, 2, 29): 738944, day(9999, 12, 30): 3652057, day(9999, 12, 31): 3652058,
	} {
		if n := Days(d); n != want {
			t.Errorf("Days(%v) = %d, not %d", d, n, want)
		}
		if got, ok := Of(want); got != d || !ok {
			t.Errorf("Of(%d) = %v, %v, not %v", want, got, ok, d)
		}
	}
}

func TestDaysAndOfEachDay(t *testing.T) {
	n := walk(func(n int, d api.Date) {
		if got := Days(d); got != n {
			t.Fatalf("Days(%v) = %d, not %d", d, got, n)
		}
		if got, ok := Of(n); got != d || !ok {
			t.Fatalf("Of(%d) = %v, %v, not %v", n, got, ok, d)
		}
	})
	if n != all {
		t.Errorf("%d days", n)
	}
}

// TestDaysAgainstTheLibrary holds the days' numbers against the library's calendar, which counts the same way back to 1; no clock is read.
func TestDaysAgainstTheLibrary(t *testing.T) {
	first := time.Date(1, 1, 1, 0, 0, 0, 0, time.UTC).Unix()
	for n := range all {
		y, m, d := time.Unix(first+int64(n)*86400, 0).UTC().Date()
		if got, ok := Of(n); got != day(y, int(m), d) || !ok {
			t.Fatalf("Of(%d) = %v, %v, not %d, %d, %d", n, got, ok, y, m, d)
		}
		if got := Days(day(y, int(m), d)); got != n {
			t.Fatalf("Days(%d, %d, %d) = %d, not %d", y, m, d, got, n)
		}
	}
}

func TestDaysOfWrongDays(t *testing.T) {
	for _, d := range wrong() {
		if n := Days(d); n != -1 {
			t.Errorf("Days(%v) = %d", d, n)
		}
	}
}

func TestOfAtTheEdges(t *testing.T) {
	for n, want := range map[int]api.Date{0: day(1, 1, 1), 1: day(1, 1, 2), all - 2: day(9999, 12, 30), all - 1: day(9999, 12, 31)} {
		if d, ok := Of(n); d != want || !ok {
			t.Errorf("Of(%d) = %v, %v, not %v", n, d, ok, want)
		}
	}
	for _, n := range []int{-1, -2, -365, -146097, far, far + 1, all, all + 1, 2 * all, 1 << 32, 1<<32 + 1, -1<<32 + 1, 1 << 62, most - 1, most} {
		if d, ok := Of(n); d != (api.Date{}) || ok {
			t.Errorf("Of(%d) = %v, %v", n, d, ok)
		}
	}
}

// P6.3

func TestShowKnown(t *testing.T) {
	for d, want := range map[api.Date]string{
		day(1, 1, 1): "0001-01-01", day(9, 9, 9): "0009-09-09", day(10, 10, 10): "0010-10-10", day(99, 12, 31): "0099-12-31", day(100, 1, 30): "0100-01-30",
		day(987, 6, 5): "0987-06-05", day(1000, 1, 1): "1000-01-01", day(2000, 2, 29): "2000-02-29", day(2026, 11, 5): "2026-11-05", day(9999, 12, 31): "9999-12-31",
	} {
		if s := Show(d); s != want {
			t.Errorf("Show(%v) = %q, not %q", d, s, want)
		}
	}
}

func TestShowOfWrongDays(t *testing.T) {
	for _, d := range wrong() {
		if s := Show(d); s != "" {
			t.Errorf("Show(%v) = %q", d, s)
		}
	}
}

func TestShowAll(t *testing.T) {
	walk(func(n int, d api.Date) {
		if n%7 == 0 && Show(d) != fmt.Sprintf("%04d-%02d-%02d", d.Y, d.M, d.D) {
			t.Fatalf("Show(%v) = %q", d, Show(d))
		}
	})
}

// refused asks for one refusal of Read.
func refused(t *testing.T, s string, want api.Errno) {
	t.Helper()
	if d, e := Read(s); d != (api.Date{}) || e != want {
		t.Errorf("Read(%q) = %v, %d, not %d", s, d, e, want)
	}
}

func TestReadKnown(t *testing.T) {
	for s, want := range map[string]api.Date{
		"0001-01-01": day(1, 1, 1), "9999-12-31": day(9999, 12, 31), "2026-11-05": day(2026, 11, 5), "2000-02-29": day(2000, 2, 29), "2024-02-29": day(2024, 2, 29),
		"0400-02-29": day(400, 2, 29), "0987-06-05": day(987, 6, 5), "1234-10-20": day(1234, 10, 20),
	} {
		if d, e := Read(s); d != want || e != api.OK {
			t.Errorf("Read(%q) = %v, %d, not %v", s, d, e, want)
		}
	}
}

func TestReadOfWrongDays(t *testing.T) {
	for _, s := range []string{
		"0000-00-00", "0000-01-01", "0000-12-31", "0000-02-29", "2026-00-01", "2026-13-01", "2026-99-01", "2026-01-00", "2026-01-32", "2026-01-99", "2026-04-31", "2026-06-31", "2026-09-31", "2026-11-31",
		"2026-02-29", "2024-02-30", "1900-02-29", "0100-02-29", "2100-02-29", "2000-02-30", "9999-12-32", "9999-13-01", "9999-99-99",
	} {
		refused(t, s, api.ErrDate)
	}
}

func TestReadOfWrongForms(t *testing.T) {
	for _, s := range []string{
		"", "2", "-", "--", "2026", "2026-", "2026-11", "2026-11-", "2026-11-0", "2026-11-5", "2026-1-05", "2026-1-5", "26-11-05", "026-11-05", "20261105", "2026-1105", "202611-05",
		"2026-11-055", "2026-11-05-", "2026-011-5", "12026-11-05", "02026-11-05", "2026-11-05 ", " 2026-11-05", "2026-11-05\n", "2026-11-05\x00", "2026-11-05T00:00",
		"2026/11/05", "2026.11.05", "2026 11 05", "2026-11 05", "2026 11-05", "2026_11_05", "2026-11+05", "2026\x0011-05", "05-11-2026", "05.11.2026", "11/05/2026", "2026-Nov-5",
		"-026-11-05", "+026-11-05", " 026-11-05", "2026--1-05", "2026-+1-05", "2026- 1-05", "2026-11--5", "2026-11- 5", "x026-11-05", "2026-11-0x", "0x26-11-05", "2026-1e-05", "2_26-11-05",
		"0000-00-0x", "9999-99-9:", "2026-1/-31", "2026-13/01", "2026-02-2:",
	} {
		refused(t, s, api.ErrForm)
	}
}

// TestReadOfOtherScripts has texts of ten bytes and of ten runes with digits and dashes that are none here, and bytes that are no UTF-8.
func TestReadOfOtherScripts(t *testing.T) {
	for _, s := range []string{
		"202٣-11-05", "20٣-11-055", "20٣-11-05", "2026-٣-05", "2026-11-٣", "٢٠٢٦-١١-٠٥", "２０２６-１１-０５", "２026-11-05", "２6-11-05", "2026-11-0５", "20é-11-055",
		"2026–11–05", "2026−11−05", "2026\u201111\u201105", "2026–05", "2026-1\u20135", "²026-11-05", "𝟐026-11-05", "𝟐-11-05-0",
		"2026-11-\xff5", "\xff026-11-05", "2026\xff11-05", "2026-11\xff05", "2026-11-0\xff", "\xb2026-11-05", "2026-11-0\xb5", "2026\xad11\xad05", "\xe2\x82\xff6-11-05", "2026-11-\xd9\xa3", "\xff\xff\xff\xff-\xff\xff-\xff\xff",
		strings.Repeat("\xff", 10), strings.Repeat("٣", 5), strings.Repeat("٣", 10), strings.Repeat("\x00", 10), strings.Repeat("-", 10), strings.Repeat("1", 10),
	} {
		refused(t, s, api.ErrForm)
	}
}

// TestReadWithEachByte puts each byte into each place: a digit in a digit's place may stay in form, nothing else.
func TestReadWithEachByte(t *testing.T) {
	for _, s := range []string{"2026-11-05", "2000-02-29", "2026-11-31", "0000-00-00"} {
		for at := range s {
			for b := range 256 {
				spoilt := s[:at] + string([]byte{byte(b)}) + s[at+1:]
				digit := b >= '0' && b <= '9'
				if at == 4 || at == 7 {
					if b != '-' {
						refused(t, spoilt, api.ErrForm)
					}
				} else if !digit {
					refused(t, spoilt, api.ErrForm)
				} else if _, e := Read(spoilt); e == api.ErrForm {
					t.Errorf("Read(%q) = %d", spoilt, e)
				}
				refused(t, s[:at]+string([]byte{byte(b)})+s[at:], api.ErrForm)
			}
			refused(t, s[:at]+s[at+1:], api.ErrForm)
			refused(t, s[:at], api.ErrForm)
		}
	}
}

// TestReadInForm reads all months and days of two digits, in years of each kind.
func TestReadInForm(t *testing.T) {
	for _, y := range []int{0, 1, 4, 100, 400, 1900, 2000, 2024, 2026, 9996, 9999} {
		for m := range 100 {
			for d := range 100 {
				s := fmt.Sprintf("%04d-%02d-%02d", y, m, d)
				want, wantE := day(y, m, d), api.OK
				if !isDay(want) {
					want, wantE = api.Date{}, api.ErrDate
				}
				if got, e := Read(s); got != want || e != wantE {
					t.Fatalf("Read(%q) = %v, %d, not %v, %d", s, got, e, want, wantE)
				}
			}
		}
	}
}

func TestReadOfLongTexts(t *testing.T) {
	for _, piece := range []string{"2026-11-05", "0", "-", "\xff", "é"} {
		refused(t, strings.Repeat(piece, 1<<18), api.ErrForm)
	}
}

func TestBeforeKnown(t *testing.T) {
	for _, r := range []struct{ a, b api.Date }{
		{day(2026, 1, 1), day(2026, 1, 2)}, {day(2026, 1, 31), day(2026, 2, 1)}, {day(2026, 12, 31), day(2027, 1, 1)}, {day(2024, 2, 28), day(2024, 2, 29)}, {day(2024, 2, 29), day(2024, 3, 1)},
		{day(2026, 1, 31), day(2026, 12, 1)}, {day(2025, 12, 31), day(2026, 1, 1)}, {day(1, 1, 1), day(9999, 12, 31)}, {day(1, 1, 1), day(1, 1, 2)}, {day(9999, 12, 30), day(9999, 12, 31)},
	} {
		if !Before(r.a, r.b) || Before(r.b, r.a) || Before(r.a, r.a) || Before(r.b, r.b) {
			t.Errorf("%v and %v: %v %v %v %v", r.a, r.b, Before(r.a, r.b), Before(r.b, r.a), Before(r.a, r.a), Before(r.b, r.b))
		}
	}
}

// earlier compares days field by field, without their numbers.
func earlier(a, b api.Date) bool {
	if a.Y != b.Y {
		return a.Y < b.Y
	}
	if a.M != b.M {
		return a.M < b.M
	}
	return a.D < b.D
}

func TestBeforeOfEachTwo(t *testing.T) {
	for _, a := range some() {
		for _, b := range some() {
			if Before(a, b) != earlier(a, b) {
				t.Fatalf("Before(%v, %v) = %v", a, b, Before(a, b))
			}
		}
	}
}

func TestBeforeOfWrongDays(t *testing.T) {
	right := []api.Date{day(1, 1, 1), day(1, 1, 2), day(2024, 2, 29), day(2026, 11, 5), day(9999, 12, 30), day(9999, 12, 31)}
	for _, w := range wrong() {
		for _, d := range right {
			if Before(w, d) || Before(d, w) {
				t.Errorf("%v and %v: %v, %v", w, d, Before(w, d), Before(d, w))
			}
		}
		for _, other := range wrong() {
			if Before(w, other) {
				t.Errorf("Before(%v, %v)", w, other)
			}
		}
	}
}

// P6.4

func TestOfDaysOfEachDay(t *testing.T) {
	walk(func(_ int, d api.Date) {
		if got, ok := Of(Days(d)); got != d || !ok {
			t.Fatalf("Of(Days(%v)) = %v, %v", d, got, ok)
		}
	})
}

// TestTheDayBehind goes from each day to the next, over the ends of months and of years.
func TestTheDayBehind(t *testing.T) {
	was, text := api.Date{}, ""
	walk(func(n int, d api.Date) {
		if n > 0 {
			if Days(d) != Days(was)+1 || !Before(was, d) || Before(d, was) || Show(d) <= text {
				t.Fatalf("%v, and behind it %v", was, d)
			}
		}
		was, text = d, Show(d)
	})
}

func TestReadOfShowOfEachDay(t *testing.T) {
	walk(func(_ int, d api.Date) {
		if got, e := Read(Show(d)); got != d || e != api.OK {
			t.Fatalf("Read(Show(%v)) = %v, %d", d, got, e)
		}
	})
}

func TestTextsAreInTheirDaysOrder(t *testing.T) {
	for _, a := range some() {
		for _, b := range some() {
			if (Show(a) < Show(b)) != (Days(a) < Days(b)) || (Show(a) < Show(b)) != Before(a, b) || (Show(a) == Show(b)) != (a == b) {
				t.Fatalf("%v and %v: %q, %q", a, b, Show(a), Show(b))
			}
		}
	}
}
