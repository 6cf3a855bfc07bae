package series

import (
	"math/rand"
	"slices"
	"testing"

	"impost/api"
)

// P10.5

// TestNumbersInARow takes all of a series, and asks on behind its limit.
func TestNumbersInARow(t *testing.T) {
	for _, limit := range []int{1, 2, 3, 100, 1000} {
		l, e := Open(some(), "new", limit)
		if e != api.OK {
			t.Fatalf("Open: %d", e)
		}
		for want := 1; want <= limit; want++ {
			m, n, e := Take(l, "new")
			if n != want || e != api.OK {
				t.Fatalf("limit %d: %d, %d, not %d", limit, n, e, want)
			}
			l = m
		}
		for range 3 {
			if m, n, e := Take(l, "new"); m != nil || n != 0 || e != api.ErrFull {
				t.Fatalf("behind the limit %d: %v, %d, %d", limit, m, n, e)
			}
		}
		for _, s := range some() {
			if got, ok := Find(l, s.Name); got != s || !ok {
				t.Errorf("%q became %v, %v", s.Name, got, ok)
			}
		}
	}
}

// TestNumbersUpToTheGreatest goes the last steps to MaxNumber.
func TestNumbersUpToTheGreatest(t *testing.T) {
	l := []api.Series{one("a", cap40-3, cap40)}
	for want := cap40 - 3; want <= cap40; want++ {
		m, n, e := Take(l, "a")
		if n != want || e != api.OK || !Right(m) {
			t.Fatalf("%v, %d, %d, not %d", m, n, e, want)
		}
		l = m
	}
	if m, n, e := Take(l, "a"); m != nil || n != 0 || e != api.ErrFull || !Right(l) {
		t.Errorf("behind it: %v, %d, %d", m, n, e)
	}
}

// issuer is what a series must be by what was done: how many numbers were taken of it, not which is the next.
type issuer struct {
	taken, limit int
	shut         bool
}

// office remembers each series by its name, beside the list that the package gives.
type office struct {
	l  []api.Series
	of map[string]issuer
}

// open opens a series in both, and tells whether they agree.
func (o *office) open(name string, limit int) bool {
	got, e := Open(o.l, name, limit)
	_, there := o.of[name]
	want := api.OK
	if there {
		want = api.ErrTaken
	} else if len(o.of) == eight {
		want = api.ErrFull
	}
	if e == api.OK {
		o.l, o.of[name] = got, issuer{limit: limit}
	}
	return e == want
}

// shut shuts a series in both.
func (o *office) shut(name string) bool {
	got, e := Shut(o.l, name)
	s, there := o.of[name]
	want := api.OK
	if !there {
		want = api.ErrNone
	} else if s.shut {
		want = api.ErrShut
	}
	if e == api.OK {
		s.shut = true
		o.l, o.of[name] = got, s
	}
	return e == want
}

// take takes a number, which must be one more than were taken of that series.
func (o *office) take(name string) bool {
	got, n, e := Take(o.l, name)
	s, there := o.of[name]
	want, number := api.OK, 0
	if !there {
		want = api.ErrNone
	} else if s.shut {
		want = api.ErrShut
	} else if s.taken == s.limit {
		want = api.ErrFull
	} else {
		s.taken++
		number = s.taken
	}
	if e == api.OK {
		o.l, o.of[name] = got, s
	}
	return e == want && n == number
}

// agrees tells whether the list has what was remembered, and nothing else.
func (o *office) agrees() bool {
	for name, s := range o.of {
		want := api.Series{Name: name, Next: s.taken + 1, Limit: s.limit, Shut: s.shut}
		if got, ok := Find(o.l, name); got != want || !ok {
			return false
		}
	}
	return len(o.l) == len(o.of) && Right(o.l) && isRight(o.l)
}

// refused asks for what can't be, of which nothing may be seen behind.
func (o *office) refused(t *testing.T, name string) {
	t.Helper()
	was := slices.Clone(o.l)
	for _, bad := range nameless() {
		if m, e := Open(o.l, bad, 1); m != nil || e != api.ErrName {
			t.Fatalf("Open of %q: %v, %d", bad, m, e)
		}
		if m, n, e := Take(o.l, bad); m != nil || n != 0 || e != api.ErrNone {
			t.Fatalf("Take of %q: %v, %d, %d", bad, m, n, e)
		}
	}
	for _, limit := range []int{far, 0, cap40 + 1, most} {
		if m, e := Open(o.l, name, limit); m != nil || e != api.ErrArg {
			t.Fatalf("Open up to %d: %v, %d", limit, m, e)
		}
	}
	if !slices.Equal(o.l, was) {
		t.Fatalf("what is refused made %v of %v", o.l, was)
	}
}

// TestNumbersWhateverComesBetween draws openings, shuttings and takings of a few names, among them more than MaxSeries.
func TestNumbersWhateverComesBetween(t *testing.T) {
	draw := rand.New(rand.NewSource(105))
	all := []string{"a", "A", "aa", "ab", "b", "c", "rent", "rents", "z", "\u00c4", "\u00fc"}
	for round := range 400 {
		o := office{of: map[string]issuer{}}
		for step := range 200 {
			name, did, ok := all[draw.Intn(len(all))], "take", false
			switch draw.Intn(24) {
			case 0, 1:
				did, ok = "open", o.open(name, 1+draw.Intn(12))
			case 2:
				did, ok = "shut", draw.Intn(3) > 0 || o.shut(name)
			default:
				ok = o.take(name)
			}
			if !ok || !o.agrees() {
				t.Fatalf("round %d, step %d: %s %q: %v, not %v", round, step, did, name, o.l, o.of)
			}
		}
		o.refused(t, all[draw.Intn(len(all))])
	}
}

// TestOthersStay does each call of each series, and asks for all the others.
func TestOthersStay(t *testing.T) {
	for _, l := range [][]api.Series{some(), many(7)} {
		for _, s := range l {
			opened, _ := Open(l, s.Name+"x", 4)
			shut, _ := Shut(l, s.Name)
			taken, _, _ := Take(l, s.Name)
			for i, m := range [][]api.Series{opened, shut, taken} {
				for _, o := range l {
					if m == nil || i > 0 && o.Name == s.Name {
						continue
					}
					if got, ok := Find(m, o.Name); got != o || !ok {
						t.Errorf("call %d of %q made %v of %v", i, s.Name, got, o)
					}
				}
			}
		}
	}
}

// TestTheOrderOfOpeningsDoesNotMatter opens the same series in many orders.
func TestTheOrderOfOpeningsDoesNotMatter(t *testing.T) {
	draw := rand.New(rand.NewSource(106))
	names := named()
	for range 300 {
		var want []api.Series
		for _, at := range draw.Perm(len(names))[:eight] {
			want = append(want, one(names[at], 1, at+1))
		}
		slices.SortFunc(want, func(a, b api.Series) int { return slices.Index(names, a.Name) - slices.Index(names, b.Name) })
		var l []api.Series
		for _, at := range draw.Perm(eight) {
			m, e := Open(l, want[at].Name, want[at].Limit)
			if e != api.OK {
				t.Fatalf("Open(%v, %q): %d", l, want[at].Name, e)
			}
			l = m
		}
		if !slices.Equal(l, want) {
			t.Fatalf("%v, not %v", l, want)
		}
	}
}
