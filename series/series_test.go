package series

import (
	"math/rand"
	"slices"
	"strings"
	"testing"

	"impost/api"
)

func TestRuns(t *testing.T) {
	var l []api.Series
	for _, r := range []struct {
		call, name  string
		limit, want int
		why         api.Errno
	}{
		{"Open", "b", 2, 0, api.OK}, {"Open", "a", 9, 0, api.OK}, {"Take", "b", 0, 1, api.OK}, {"Take", "b", 0, 2, api.OK}, {"Take", "b", 0, 0, api.ErrFull},
		{"Shut", "a", 0, 0, api.OK}, {"Take", "a", 0, 0, api.ErrShut}, {"Shut", "a", 0, 0, api.ErrShut}, {"Open", "a", 1, 0, api.ErrTaken}, {"Take", "c", 0, 0, api.ErrNone},
	} {
		var m []api.Series
		var n int
		var e api.Errno
		switch r.call {
		case "Open":
			m, e = Open(l, r.name, r.limit)
		case "Shut":
			m, e = Shut(l, r.name)
		case "Take":
			m, n, e = Take(l, r.name)
		}
		if n != r.want || e != r.why || e != api.OK && m != nil {
			t.Fatalf("%s %s: %v, %d, %d", r.call, r.name, m, n, e)
		}
		if e == api.OK {
			l = m
		}
	}
	if want := []api.Series{shut(one("a", 1, 9)), one("b", 3, 2)}; !slices.Equal(l, want) {
		t.Errorf("%v, not %v", l, want)
	}
}

// P10.1

func TestRightByLength(t *testing.T) {
	if !Right(nil) || !Right([]api.Series{}) {
		t.Error("no series")
	}
	for n := range 40 {
		if Right(many(n)) != (n <= 8) {
			t.Errorf("%d series: %v", n, n > 8)
		}
	}
}

func TestRightByNumbers(t *testing.T) {
	for i, r := range []struct {
		next, limit int
		want        bool
	}{
		{0, 1, false}, {1, 1, true}, {2, 1, true}, {3, 1, false}, {-1, 1, false}, {far, 1, false}, {most, 1, false},
		{0, 5, false}, {1, 5, true}, {4, 5, true}, {5, 5, true}, {6, 5, true}, {7, 5, false}, {-5, 5, false},
		{0, cap40, false}, {1, cap40, true}, {cap40 - 1, cap40, true}, {cap40, cap40, true}, {cap40 + 1, cap40, true}, {cap40 + 2, cap40, false}, {most, cap40, false}, {far, cap40, false},
		{1, cap40 - 1, true}, {cap40, cap40 - 1, true}, {cap40 + 1, cap40 - 1, false},
		{1, cap40 + 1, false}, {0, cap40 + 1, false}, {cap40 + 2, cap40 + 1, false},
		{0, 0, false}, {1, 0, false}, {2, 0, false}, {0, -1, false}, {1, -1, false},
		{1, far, false}, {far, far, false}, {far + 1, far, false}, {1, most, false}, {far, most, false}, {most, most, false}, {1<<32 + 1, 1, false}, {1, 1<<48 + 1, false},
	} {
		for _, s := range []api.Series{one("a", r.next, r.limit), shut(one("a", r.next, r.limit))} {
			if Right([]api.Series{s}) != r.want {
				t.Errorf("%d: %v: %v", i, s, !r.want)
			}
		}
	}
}

func TestRightByNames(t *testing.T) {
	for i, a := range named() {
		if !Right([]api.Series{one(a, 1, 1)}) {
			t.Errorf("%q", a)
		}
		for j, b := range named() {
			if Right([]api.Series{one(a, 1, 1), one(b, 1, 1)}) != (i < j) {
				t.Errorf("%q and %q: %v", a, b, i >= j)
			}
		}
	}
	for _, s := range nameless() {
		if Right([]api.Series{one(s, 1, 1)}) {
			t.Errorf("a series named %q", s)
		}
	}
}

func TestRightOfWrongLists(t *testing.T) {
	for why, l := range wrongLists() {
		if Right(l) {
			t.Error(why)
		}
	}
	if !Right(some()) {
		t.Error("a list that is right")
	}
}

// TestRightOfEachFault spoils one series of a full list at a time.
func TestRightOfEachFault(t *testing.T) {
	for at := range api.MaxSeries {
		for i, spoil := range []func(s *api.Series){
			func(s *api.Series) { s.Name += " " }, func(s *api.Series) { s.Name = "" }, func(s *api.Series) { s.Next = 0 }, func(s *api.Series) { s.Next = s.Limit + 2 }, func(s *api.Series) { s.Limit = 0 }, func(s *api.Series) { s.Limit = cap40 + 1 },
		} {
			l := many(api.MaxSeries)
			spoil(&l[at])
			if Right(l) {
				t.Errorf("fault %d of series %d", i, at)
			}
		}
	}
}

// TestRightOfEachPlace swaps and doubles neighbours of a full list.
func TestRightOfEachPlace(t *testing.T) {
	for at := range api.MaxSeries - 1 {
		l := many(api.MaxSeries)
		l[at], l[at+1] = l[at+1], l[at]
		if Right(l) {
			t.Errorf("%d and the next one are swapped", at)
		}
		l = many(api.MaxSeries)
		l[at+1].Name = l[at].Name
		if Right(l) {
			t.Errorf("%d and the next one are alike", at)
		}
	}
}

func TestRightOfDrawn(t *testing.T) {
	draw := rand.New(rand.NewSource(101))
	seen := [2]int{}
	for range 20000 {
		l := spoilt(draw, drawnList(draw))
		want := isRight(l)
		if Right(l) != want {
			t.Fatalf("Right(%v) = %v", l, !want)
		}
		if want {
			seen[1]++
		} else {
			seen[0]++
		}
	}
	if seen[0] < 1000 || seen[1] < 1000 {
		t.Errorf("too few of one sort were drawn: %v", seen)
	}
}

// P10.2

func TestOpenPlaces(t *testing.T) {
	for i, r := range []struct {
		l    []api.Series
		name string
		at   int
	}{
		{nil, "a", 0}, {[]api.Series{}, "\u024f", 0},
		{some()[:1], "A", 0}, {some()[:1], "a-", 1}, {some()[:1], "\u00c0", 1},
		{some(), "Z", 0}, {some(), "aa", 1}, {some(), "a.", 1}, {some(), "ba", 2}, {some(), "c", 2}, {some(), "dz", 3}, {some(), "f", 4}, {some(), "ga", 5}, {some(), "z", 5}, {some(), "\u00c4", 5},
		{many(7), "s", 0}, {many(7), "sa", 0}, {many(7), "saaa", 1}, {many(7), "sada", 4}, {many(7), "sah", 7}, {many(7), "t", 7}, {many(7), strings.Repeat("s", 24), 7},
	} {
		for _, limit := range []int{1, 2, cap40 - 1, cap40} {
			got, e := Open(r.l, r.name, limit)
			if want := slices.Insert(slices.Clone(r.l), r.at, one(r.name, 1, limit)); e != api.OK || !slices.Equal(got, want) {
				t.Errorf("%d: %v, %d, not %v", i, got, e, want)
			}
		}
	}
}

func TestOpenByItsLimit(t *testing.T) {
	for limit, want := range map[int]api.Errno{far: api.ErrArg, far + 1: api.ErrArg, -1: api.ErrArg, 0: api.ErrArg, 1: api.OK, 2: api.OK, 1 << 32: api.OK, cap40 - 1: api.OK, cap40: api.OK, cap40 + 1: api.ErrArg, 1<<48 + 1: api.ErrArg, most - 1: api.ErrArg, most: api.ErrArg} {
		for _, l := range [][]api.Series{nil, {}, some(), many(7)} {
			if got, e := Open(l, "new", limit); e != want || (got != nil) != (want == api.OK) {
				t.Errorf("%d: %v, %d", limit, got, e)
			}
		}
	}
}

func TestOpenByItsName(t *testing.T) {
	for _, s := range named() {
		if got, e := Open(nil, s, 1); e != api.OK || !slices.Equal(got, []api.Series{one(s, 1, 1)}) {
			t.Errorf("%q: %v, %d", s, got, e)
		}
	}
	for _, s := range nameless() {
		for _, l := range [][]api.Series{nil, some(), many(8)} {
			if got, e := Open(l, s, 1); got != nil || e != api.ErrName {
				t.Errorf("%q: %v, %d", s, got, e)
			}
		}
	}
}

// TestOpenOfTakenNames asks for each name of lists of any length, shut and used up ones too.
func TestOpenOfTakenNames(t *testing.T) {
	for _, l := range [][]api.Series{many(1), many(2), many(7), many(8), some()} {
		for _, s := range l {
			for _, limit := range []int{1, s.Limit, cap40} {
				if got, e := Open(l, s.Name, limit); got != nil || e != api.ErrTaken {
					t.Errorf("%q: %v, %d", s.Name, got, e)
				}
			}
		}
	}
}

func TestOpenInAFullList(t *testing.T) {
	for _, name := range []string{"a", "saaa", "z", "Sa"} {
		if got, e := Open(many(8), name, 1); got != nil || e != api.ErrFull {
			t.Errorf("%q: %v, %d", name, got, e)
		}
		if got, e := Open(many(7), name, 1); len(got) != 8 || e != api.OK {
			t.Errorf("%q in one less: %v, %d", name, got, e)
		}
	}
}

// TestOpensFirstFault has, for each refusal, all of those behind it as well.
func TestOpensFirstFault(t *testing.T) {
	full := many(8)
	wrong := []api.Series{full[1], full[0]}
	for i, r := range []struct {
		l     []api.Series
		name  string
		limit int
		want  api.Errno
	}{
		{wrong, "7", 0, api.ErrArg}, {wrong, "", 1, api.ErrArg}, {wrong, "new", 1, api.ErrArg}, {wrong, full[0].Name, 1, api.ErrArg},
		{many(9), "7", 0, api.ErrArg}, {many(9), "", 1, api.ErrArg}, {many(9), full[0].Name, 1, api.ErrArg}, {many(9), "new", 1, api.ErrArg}, {many(9), many(9)[8].Name, 1, api.ErrArg},
		{full, "7", 0, api.ErrName}, {full, "", far, api.ErrName}, {full, "a\xff", most, api.ErrName}, {nil, "", 0, api.ErrName}, {nil, "7", cap40 + 1, api.ErrName},
		{full, full[0].Name, 0, api.ErrArg}, {full, full[7].Name, cap40 + 1, api.ErrArg}, {full, "new", 0, api.ErrArg}, {full, "new", far, api.ErrArg}, {nil, "a", 0, api.ErrArg},
		{full, full[0].Name, 1, api.ErrTaken}, {full, full[7].Name, cap40, api.ErrTaken}, {full[:7], full[6].Name, 1, api.ErrTaken},
		{full, "new", 1, api.ErrFull}, {full[:7], full[7].Name, 1, api.OK},
	} {
		if got, e := Open(r.l, r.name, r.limit); e != r.want || e != api.OK && got != nil {
			t.Errorf("%d: %v, %d, not %d", i, got, e, r.want)
		}
	}
}

func TestOpenOfDrawn(t *testing.T) {
	draw := rand.New(rand.NewSource(102))
	seen := map[api.Errno]int{}
	for range 20000 {
		l, name, limit := drawnList(draw), drawnName(draw), drawnNumber(draw)
		if draw.Intn(4) == 0 {
			l = spoilt(draw, l)
		}
		got, e := Open(l, name, limit)
		want, why := wantOpen(l, name, limit)
		if e != why || !slices.Equal(got, want) {
			t.Fatalf("Open(%v, %q, %d) = %v, %d, not %v, %d", l, name, limit, got, e, want, why)
		}
		if e == api.OK && (!Right(got) || len(got) != len(l)+1) {
			t.Fatalf("Open(%v, %q, %d) = %v isn't right", l, name, limit, got)
		}
		seen[e]++
	}
	for _, e := range []api.Errno{api.OK, api.ErrArg, api.ErrName, api.ErrTaken, api.ErrFull} {
		if seen[e] < 100 {
			t.Errorf("%d was drawn %d times", e, seen[e])
		}
	}
}

// P10.3

func TestShutOfEach(t *testing.T) {
	for _, l := range [][]api.Series{many(1), many(2), many(8), some()} {
		for at, s := range l {
			got, e := Shut(l, s.Name)
			if s.Shut {
				if got != nil || e != api.ErrShut {
					t.Errorf("%q, which is shut: %v, %d", s.Name, got, e)
				}
				continue
			}
			want := slices.Clone(l)
			want[at].Shut = true
			if e != api.OK || !slices.Equal(got, want) || !Right(got) {
				t.Errorf("%q: %v, %d, not %v", s.Name, got, e, want)
			}
			if again, e := Shut(got, s.Name); again != nil || e != api.ErrShut {
				t.Errorf("%q again: %v, %d", s.Name, again, e)
			}
		}
	}
}

// absent are names that some and many haven't, and texts that are none.
func absent() []string {
	return append(nameless(), "A", "B", "aa", "a-", "c", "new", "s", "sa", "saaa", "z", "\u00e4")
}

func TestShutAndTakeOfNone(t *testing.T) {
	for _, name := range absent() {
		for i, l := range [][]api.Series{nil, {}, some(), many(1), many(8), {shut(one("b", 2, 1))}} {
			if got, e := Shut(l, name); got != nil || e != api.ErrNone {
				t.Errorf("Shut of %q in list %d: %v, %d", name, i, got, e)
			}
			if got, n, e := Take(l, name); got != nil || n != 0 || e != api.ErrNone {
				t.Errorf("Take of %q in list %d: %v, %d, %d", name, i, got, n, e)
			}
		}
	}
}

// TestShutAndTakeOfWrongLists asks for what there is and what there isn't: a list that isn't right goes ahead of all.
func TestShutAndTakeOfWrongLists(t *testing.T) {
	for why, l := range wrongLists() {
		for _, s := range append(slices.Clone(l), one("new", 1, 1), one("", 1, 1), one("7", 1, 1)) {
			if got, e := Shut(l, s.Name); got != nil || e != api.ErrArg {
				t.Errorf("Shut of %q, %s: %v, %d", s.Name, why, got, e)
			}
			if got, n, e := Take(l, s.Name); got != nil || n != 0 || e != api.ErrArg {
				t.Errorf("Take of %q, %s: %v, %d, %d", s.Name, why, got, n, e)
			}
			if got, e := Open(l, s.Name, 1); got != nil || e != api.ErrArg {
				t.Errorf("Open of %q, %s: %v, %d", s.Name, why, got, e)
			}
		}
	}
}

func TestShutOfDrawn(t *testing.T) {
	draw := rand.New(rand.NewSource(103))
	seen := map[api.Errno]int{}
	for range 20000 {
		l, name := drawnList(draw), drawnName(draw)
		if draw.Intn(4) == 0 {
			l = spoilt(draw, l)
		}
		got, e := Shut(l, name)
		want, why := wantShut(l, name)
		if e != why || !slices.Equal(got, want) {
			t.Fatalf("Shut(%v, %q) = %v, %d, not %v, %d", l, name, got, e, want, why)
		}
		seen[e]++
	}
	for _, e := range []api.Errno{api.OK, api.ErrArg, api.ErrNone, api.ErrShut} {
		if seen[e] < 100 {
			t.Errorf("%d was drawn %d times", e, seen[e])
		}
	}
}

// P10.4

func TestTakeByNumbers(t *testing.T) {
	for i, r := range []struct {
		next, limit, want int
		why               api.Errno
	}{
		{1, 1, 1, api.OK}, {2, 1, 0, api.ErrFull}, {1, 2, 1, api.OK}, {2, 2, 2, api.OK}, {3, 2, 0, api.ErrFull},
		{1, cap40, 1, api.OK}, {1 << 32, cap40, 1 << 32, api.OK}, {cap40 - 1, cap40, cap40 - 1, api.OK}, {cap40, cap40, cap40, api.OK}, {cap40 + 1, cap40, 0, api.ErrFull},
		{0, 5, 0, api.ErrArg}, {7, 5, 0, api.ErrArg}, {1, 0, 0, api.ErrArg}, {1, cap40 + 1, 0, api.ErrArg}, {most, most, 0, api.ErrArg}, {far, far, 0, api.ErrArg}, {most, cap40, 0, api.ErrArg},
	} {
		l := []api.Series{one("a", 2, 9), one("b", r.next, r.limit), one("c", 3, 9)}
		got, n, e := Take(l, "b")
		if n != r.want || e != r.why {
			t.Errorf("%d: %v, %d, %d", i, got, n, e)
		}
		if r.why != api.OK {
			if got != nil {
				t.Errorf("%d: %v beside an error", i, got)
			}
			continue
		}
		if want := []api.Series{l[0], one("b", r.next+1, r.limit), l[2]}; !slices.Equal(got, want) || !Right(got) {
			t.Errorf("%d: %v, not %v", i, got, want)
		}
	}
}

// TestTakesFirstFault has a series that is shut and used up, in lists that are right and in some that aren't.
func TestTakesFirstFault(t *testing.T) {
	for i, r := range []struct {
		l    []api.Series
		name string
		want api.Errno
	}{
		{[]api.Series{shut(one("b", 3, 2)), one("a", 1, 1)}, "b", api.ErrArg}, {[]api.Series{shut(one("b", 3, 2)), one("a", 1, 1)}, "c", api.ErrArg}, {[]api.Series{shut(one("b", 4, 2))}, "b", api.ErrArg}, {many(9), "z", api.ErrArg},
		{[]api.Series{shut(one("b", 3, 2))}, "a", api.ErrNone}, {[]api.Series{one("b", 3, 2)}, "ba", api.ErrNone}, {[]api.Series{one("b", 3, 2)}, "", api.ErrNone},
		{[]api.Series{shut(one("b", 3, 2))}, "b", api.ErrShut}, {[]api.Series{shut(one("b", 2, 2))}, "b", api.ErrShut}, {[]api.Series{one("a", 1, 1), shut(one("b", 2, 2))}, "a", api.OK},
		{[]api.Series{one("b", 3, 2)}, "b", api.ErrFull}, {[]api.Series{shut(one("a", 1, 1)), one("b", 3, 2)}, "b", api.ErrFull},
	} {
		if got, n, e := Take(r.l, r.name); e != r.want || e != api.OK && (got != nil || n != 0) {
			t.Errorf("%d: %v, %d, %d, not %d", i, got, n, e, r.want)
		}
	}
}

func TestTakeOfDrawn(t *testing.T) {
	draw := rand.New(rand.NewSource(104))
	seen := map[api.Errno]int{}
	for range 20000 {
		l, name := drawnList(draw), drawnName(draw)
		if draw.Intn(4) == 0 {
			l = spoilt(draw, l)
		}
		got, n, e := Take(l, name)
		want, number, why := wantTake(l, name)
		if e != why || n != number || !slices.Equal(got, want) {
			t.Fatalf("Take(%v, %q) = %v, %d, %d, not %v, %d, %d", l, name, got, n, e, want, number, why)
		}
		seen[e]++
	}
	for _, e := range []api.Errno{api.OK, api.ErrArg, api.ErrNone, api.ErrShut, api.ErrFull} {
		if seen[e] < 100 {
			t.Errorf("%d was drawn %d times", e, seen[e])
		}
	}
}

func TestFindInRightLists(t *testing.T) {
	for _, l := range [][]api.Series{many(1), many(2), many(8), some()} {
		for _, s := range l {
			if got, ok := Find(l, s.Name); got != s || !ok {
				t.Errorf("%q: %v, %v", s.Name, got, ok)
			}
		}
	}
	for _, name := range absent() {
		for i, l := range [][]api.Series{nil, {}, some(), many(8)} {
			if got, ok := Find(l, name); got != (api.Series{}) || ok {
				t.Errorf("%q in list %d: %v, %v", name, i, got, ok)
			}
		}
	}
}

// TestFindInAnyList has names more than once, names that are none, and no order: the first one of that name counts.
func TestFindInAnyList(t *testing.T) {
	l := []api.Series{one("b", 1, 1), {}, one("a", 9, -3), shut(one("b", 2, 2)), one("", 5, 5), one("\xff", far, most), one("a", 1, 1), one("\ufffd", 1, 2), one("B", 0, 0)}
	for name, at := range map[string]int{"b": 0, "": 1, "a": 2, "\xff": 5, "\ufffd": 7, "B": 8} {
		if got, ok := Find(l, name); got != l[at] || !ok {
			t.Errorf("%q: %v, %v", name, got, ok)
		}
	}
	for _, name := range []string{"A", "ab", "\xfe", "\x00", "a ", strings.Repeat("b", 5000)} {
		if got, ok := Find(l, name); got != (api.Series{}) || ok {
			t.Errorf("%q: %v, %v", name, got, ok)
		}
	}
	for why, l := range wrongLists() {
		for _, s := range l {
			if got, ok := Find(l, s.Name); got != l[at(l, s.Name)] || !ok {
				t.Errorf("%s: %q: %v, %v", why, s.Name, got, ok)
			}
		}
		if got, ok := Find(l, "new"); got != (api.Series{}) || ok {
			t.Errorf("%s: %v, %v", why, got, ok)
		}
	}
}

func TestFindInLongLists(t *testing.T) {
	l := many(400)
	for i, s := range l {
		if got, ok := Find(l, s.Name); got != l[i] || !ok {
			t.Fatalf("%q: %v, %v", s.Name, got, ok)
		}
	}
}

// R2, R5

// lists are such as all calls are tried on: right ones, full ones, and ones that aren't right.
func lists() [][]api.Series {
	wrong := some()
	slices.Reverse(wrong)
	return [][]api.Series{{}, some(), many(7), many(8), many(9), wrong}
}

// names are such as are there, would be new, or are none.
func names() []string {
	return []string{"a", "b", "c", "d", "e", "g", "z", "A", "saa", "sag", "sah", "sb", "7", "", "\xff"}
}

func TestWhatIsHandedInStays(t *testing.T) {
	for i, l := range lists() {
		l = roomy(l)
		was := whole(l)
		for _, name := range names() {
			Right(l)
			Open(l, name, 5)
			Open(l, name, 0)
			Shut(l, name)
			Take(l, name)
			Find(l, name)
			if !slices.Equal(whole(l), was) {
				t.Fatalf("list %d was changed by %q", i, name)
			}
		}
	}
}

// TestAnswersAreNewMemory writes over all of the answer, its spare room too, and over all of what was given.
func TestAnswersAreNewMemory(t *testing.T) {
	calls := []func(l []api.Series, name string) ([]api.Series, api.Errno){
		func(l []api.Series, name string) ([]api.Series, api.Errno) { return Open(l, name, 5) },
		Shut,
		func(l []api.Series, name string) ([]api.Series, api.Errno) { m, _, e := Take(l, name); return m, e },
	}
	for at, call := range calls {
		answers := 0
		for i, l := range lists() {
			for _, name := range names() {
				l := roomy(l)
				was := whole(l)
				got, e := call(l, name)
				if e != api.OK {
					continue
				}
				answers++
				other, _ := call(l, name)
				want := slices.Clone(other)
				clear(got[:cap(got)])
				if !slices.Equal(whole(l), was) || !slices.Equal(other, want) {
					t.Fatalf("call %d of %q: list %d shares memory with the answer", at, name, i)
				}
				clear(l[:cap(l)])
				if !slices.Equal(other, want) {
					t.Fatalf("call %d of %q: the answer shares memory with list %d", at, name, i)
				}
			}
		}
		if answers < 8 {
			t.Errorf("call %d was answered %d times", at, answers)
		}
	}
}

// TestSpareRoomIsNotRead has spare room that, were it read, would be found, or would make the list wrong (R5).
func TestSpareRoomIsNotRead(t *testing.T) {
	l := append(many(7), one("next", 1, 1), api.Series{}, one("later", 1, 1), one("a", 0, 0))[:7]
	if !Right(l) {
		t.Error("Right")
	}
	for _, name := range []string{"next", "later", "a"} {
		if got, ok := Find(l, name); ok {
			t.Errorf("Find: %v", got)
		}
		if got, e := Open(l, name, 2); len(got) != 8 || e != api.OK {
			t.Errorf("Open: %v, %d", got, e)
		}
		if got, e := Shut(l, name); got != nil || e != api.ErrNone {
			t.Errorf("Shut: %v, %d", got, e)
		}
		if got, n, e := Take(l, name); got != nil || n != 0 || e != api.ErrNone {
			t.Errorf("Take: %v, %d, %d", got, n, e)
		}
	}
	for _, s := range many(2) {
		if got, ok := Find(many(2)[:0], s.Name); ok {
			t.Errorf("Find in a list without elements: %v", got)
		}
	}
}
