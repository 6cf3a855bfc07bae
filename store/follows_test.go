package store_test

import (
	"fmt"
	"math/rand"
	"slices"
	"strings"
	"testing"

	"impost/api"
	"impost/disk"
	"impost/store"
)

// P19.4

// pairOf is two Hards, the second saved behind the first (none, if its Members are 0).
type pairOf struct{ was, h api.Hard }

// upward are Saves that make Base greater, or leave the snapshot as it is.
func upward() []pairOf {
	wide := strings.Repeat("w", 70)
	return []pairOf{
		{api.Hard{}, based()},
		{api.Hard{}, turned(baseless)},
		{turned(baseless), based()},
		{turned(baseless), turned(members(3), logged())},
		{based(), turned(base(5), baseTerm(2), logged(en(3, "b"), of(3, 5), en(5, "d")), snap("next"))},
		{based(), turned(base(6))},
		{based(), turned(base(10), baseTerm(5), logged(), snap(wide))},
		{turned(snap(wide)), turned(base(7), members(1), logged(), snap("s"))},
		{turned(base(9)), turned(base(10), term(4), voted(3), logged())},
		{turned(base(10)), turned(base(topIndex-4), term(7), snap("snap"))},
		{based(), turned(voted(3))},
		{based(), turned(term(300), voted(3))},
		{based(), turned(plus(en(5, ""), of(5, 1), en(5, strings.Repeat("x", 40))))},
		{based(), turned(fewer(1))},
		{based(), turned(logged())},
		{based(), turned(term(8), voted(1), fewer(2), plus(en(6, "y"), en(8, "z")))},
		{turned(voted(3)), turned(voted(2), plus(en(5, "e")))},
		{based(), turned(term(3), logged(en(2, "a")))},
		{turned(baseless), turned(baseless, term(6), logged(en(1, "0"), en(6, "6")))},
		{turned(baseless, voted(2)), turned(baseless, voted(1))},
		{based(), based()},
	}
}

// first is what a disk tells ahead of the Save.
func (c pairOf) first() api.Hard {
	if c.was.Members == 0 {
		return api.Hard{Vote: -1}
	}
	return c.was
}

// ways are the Hards that a disk may tell behind a Save that was broken off: what it was, and h; or, if the segment stays the same, what it was with some of the wal's records, from the first one on.
func (c pairOf) ways(t *testing.T) []api.Hard {
	t.Helper()
	d, _ := broken(t, c, -1)
	segments := slices.DeleteFunc(d.Names(), func(name string) bool { return !segmentName.MatchString(name) })
	if len(segments) != 1 {
		t.Fatalf("%q", d.Names())
	}
	now := c.first()
	if segments[0] != "wal.1" || c.was.Members == 0 {
		return []api.Hard{now, c.h}
	}
	l := []api.Hard{now}
	if now.Term != c.h.Term || now.Vote != c.h.Vote {
		now.Term, now.Vote = c.h.Term, c.h.Vote
		l = append(l, now)
	}
	keep := 0
	for keep < min(len(now.Log), len(c.h.Log)) && now.Log[keep] == c.h.Log[keep] {
		keep++
	}
	if keep != len(now.Log) {
		now.Log = now.Log[:keep]
		l = append(l, now)
	}
	for k := keep; k < len(c.h.Log); k++ {
		now.Log = c.h.Log[:k+1]
		l = append(l, now)
	}
	return l
}

// broken is a disk on which h was saved with n changes left; and what that Save answered.
func broken(t *testing.T, c pairOf, n int) (*disk.Disk, api.Errno) {
	t.Helper()
	d := disk.New()
	s, _ := store.Open(d)
	if c.was.Members != 0 {
		if e := s.Save(c.was); e != api.OK {
			t.Fatalf("Save: %d", e)
		}
	}
	d.Arm(n)
	return d, s.Save(c.h)
}

// changes is how many changes the Save does.
func (c pairOf) changes(t *testing.T) int {
	for n := 0; ; n++ {
		if _, e := broken(t, c, n); e == api.OK {
			return n
		}
	}
}

// place is where got stands in l, the last place if it does at several, or -1.
func place(l []api.Hard, got api.Hard) int {
	for k, h := range slices.Backward(l) {
		if same(h, got) {
			return k
		}
	}
	return -1
}

// raised is the Hard of a disk that is opened with all the power that it needs: nothing but its own files is left.
func raised(t *testing.T, d *disk.Disk) api.Hard {
	t.Helper()
	d.Arm(-1)
	s, e := store.Open(d)
	if e != api.OK {
		t.Fatalf("Open: %d, of %q", e, d.Names())
	}
	h := s.Hard()
	left := d.Names()
	want := 2
	if h.Base == 0 {
		want = min(1, h.Members)
	} else if left[0] != snapName(h.Base) {
		t.Fatalf("%q", left)
	}
	if len(left) != want {
		t.Fatalf("%q", left)
	}
	return h
}

// all is the same pick for each file.
func all(d *disk.Disk, pick int) []int {
	l := make([]int, len(d.Names()))
	for k := range l {
		l[k] = pick
	}
	return l
}

// TestPowerFailsInASave has each number of changes, and each pick there is of what isn't kept: each way comes of one of them, and nothing else of any.
func TestPowerFailsInASave(t *testing.T) {
	for i, c := range upward() {
		l := c.ways(t)
		seen := make([]bool, len(l))
		// at most this many bytes aren't kept, so that greater picks tear as lesser ones do
		picks := 2 * (max(len(snapFile(c.h)), len(walFile(c.h))) + 20)
		for n := range c.changes(t) + 1 {
			for pick := range picks {
				d, e := broken(t, c, n)
				d.Crash(all(d, pick)...)
				at := place(l, raised(t, d))
				if at < 0 || e == api.OK && at != len(l)-1 {
					t.Fatalf("%d, %d changes, pick %d: way %d, Save %d", i, n, pick, at, e)
				}
				seen[at] = true
			}
		}
		if same(c.was, c.h) {
			seen[0] = true
		}
		if slices.Contains(seen, false) {
			t.Errorf("%d: seen %v", i, seen)
		}
	}
}

// TestPowerFailsInOpensBehind has it fail in the Save, and then in each of two Opens.
func TestPowerFailsInOpensBehind(t *testing.T) {
	picks := [][]int{nil, {0, 1}, {3, 17, 5, 60}, {40, 41, 42, 43}, {60, 60, 60}, {75, 9}, {200, 300, 400}, {most, most, most, most}, {most - 1, most - 1, most - 1}, {-5, 33}}
	for i, c := range upward() {
		l := c.ways(t)
		for n := range c.changes(t) + 1 {
			for a := range 5 {
				for b := range 5 {
					for k, pick := range picks {
						d, e := broken(t, c, n)
						d.Crash(pick...)
						for _, left := range []int{a, b} {
							d.Arm(left)
							if s, e := store.Open(d); e == api.OK && place(l, s.Hard()) < 0 {
								t.Fatalf("%d: %s", i, brief(s.Hard()))
							} else if e != api.OK && e != api.ErrDown {
								t.Fatalf("%d: %d", i, e)
							}
							d.Crash(picks[(k+1)%len(picks)]...)
						}
						if at := place(l, raised(t, d)); at < 0 || e == api.OK && at != len(l)-1 {
							t.Fatalf("%d, %d changes, %d, %d, picks %v: way %d, Save %d", i, n, a, b, pick, at, e)
						}
					}
				}
			}
		}
	}
}

// TestOpensNeverGoBack opens again and again, with power failing each time: what a first one told all others do.
func TestOpensNeverGoBack(t *testing.T) {
	for i, c := range upward() {
		l := c.ways(t)
		for n := range c.changes(t) + 1 {
			for pick := 0; pick < 200; pick += 7 {
				d, _ := broken(t, c, n)
				d.Crash(all(d, pick)...)
				first := -1
				for left := range 8 {
					d.Arm(left)
					if s, e := store.Open(d); e == api.OK {
						at := place(l, s.Hard())
						if at < 0 || first >= 0 && at != first {
							t.Fatalf("%d: %d behind %d", i, at, first)
						}
						first = at
					}
					d.Crash(pick/3, pick/2, pick)
				}
				if first != place(l, raised(t, d)) {
					t.Fatalf("%d: not %d any more", i, first)
				}
			}
		}
	}
}

// TestPowerFailsBesideLeftovers has drafts and other snapshots there already, kept or not: they never come to count.
func TestPowerFailsBesideLeftovers(t *testing.T) {
	for i, c := range upward() {
		l := c.ways(t)
		for n := range c.changes(t) + 8 {
			for _, sync := range []bool{false, true} {
				for _, pick := range []int{0, 5, 31, 44, 45, 300, most} {
					d := disk.New()
					s, _ := store.Open(d)
					if c.was.Members != 0 {
						s.Save(c.was)
					}
					for _, name := range []string{"snap.tmp", "snap.1", snapName(c.h.Base + 1), "snap.99999999999999"} {
						d.Append(name, snapFile(turned(snap("left behind"))))
						if sync {
							d.Sync(name)
						}
					}
					d.Arm(n)
					e := s.Save(c.h)
					d.Crash(all(d, pick)...)
					d.Arm(n % 5)
					store.Open(d)
					d.Crash(all(d, pick/2)...)
					if at := place(l, raised(t, d)); at < 0 || e == api.OK && at != len(l)-1 {
						t.Fatalf("%d, %d changes, pick %d: way %d, Save %d", i, n, pick, at, e)
					}
				}
			}
		}
	}
}

// TestWhatWasSavedLasts saves again and again, any Hard behind any other, with a crash behind: whatever is torn, a Save that was OK isn't lost.
func TestWhatWasSavedLasts(t *testing.T) {
	draw := rand.New(rand.NewSource(194))
	for range 400 {
		d := disk.New()
		s, _ := store.Open(d)
		now := drawnHard(draw)
		for range 25 {
			h := drawnNext(draw, now)
			if e := s.Save(h); e == api.ErrArg {
				continue
			} else if e != api.OK {
				t.Fatalf("Save: %d", e)
			}
			now = h
			if draw.Intn(3) > 0 {
				continue
			}
			d.Crash(drawnPicks(draw)...)
			s, _ = store.Open(d)
			isHard(t, s, now)
		}
	}
}

// TestSaveThatIsOpenedAgainGoesOn saves h once more behind each failure, and that lasts.
func TestSaveThatIsOpenedAgainGoesOn(t *testing.T) {
	for _, c := range upward() {
		for n := range c.changes(t) {
			for pick := 0; pick < 150; pick += 11 {
				d, _ := broken(t, c, n)
				d.Crash(all(d, pick)...)
				s, e := store.Open(d)
				if e != api.OK {
					t.Fatal(e)
				}
				if e := s.Save(c.h); e != api.OK {
					t.Fatal(e)
				}
				d.Crash(all(d, pick)...)
				if got := raised(t, d); !same(got, c.h) {
					t.Fatalf("%s, not %s", brief(got), brief(c.h))
				}
			}
		}
	}
}

// TestDrawnFailures has a Save and some Opens behind it fail at drawn places, over and over on one disk.
func TestDrawnFailures(t *testing.T) {
	draw := rand.New(rand.NewSource(195))
	seen := map[string]int{}
	for range 500 {
		p := both().opened(t).saved(t, drawnHard(draw))
		for range 20 {
			was := p.m.h
			h := drawnNext(draw, was)
			if alike := h.Base == was.Base && h.BaseTerm == was.BaseTerm && h.Members == was.Members && h.Snap == was.Snap; !alike && h.Base <= was.Base {
				continue
			}
			p.arm(draw.Intn(10) - 1)
			e := p.save(t, h)
			p.crash(drawnPicks(draw)...)
			for p.arm(draw.Intn(5)); ; p.arm(draw.Intn(5)) {
				f := p.open(t)
				if f == api.OK {
					break
				}
				if f != api.ErrDown {
					t.Fatalf("Open: %d", f)
				}
				p.crash(drawnPicks(draw)...)
			}
			p.arm(-1)
			got := p.s.Hard()
			switch {
			case same(got, h):
			case e == api.OK:
				t.Fatalf("%s was saved, and %s is there", brief(h), brief(got))
			case got.Base != was.Base || got.Snap != was.Snap:
				t.Fatalf("%s, on the way from %s to %s", brief(got), brief(was), brief(h))
			}
			seen[fmt.Sprint(e, same(got, h))]++
		}
	}
	if seen["0 true"] < 500 || seen["18 true"] < 150 || seen["18 false"] < 500 {
		t.Errorf("%v", seen)
	}
}

// TestSavesThatNeedNotLast has the snapshot's head, or Snap alone, be other ones, or Base a lesser one: a Save that was OK lasts, and each Open answers OK or ErrForm.
func TestSavesThatNeedNotLast(t *testing.T) {
	for _, h := range []api.Hard{turned(members(3)), turned(baseTerm(1)), turned(snap("other")), turned(snap("other"), voted(3)), turned(base(3)), turned(base(3), snap("other")), turned(baseless)} {
		c := pairOf{based(), h}
		for n := range c.changes(t) + 1 {
			for pick := range 120 {
				d, e := broken(t, c, n)
				d.Crash(all(d, pick)...)
				s, f := store.Open(d)
				switch {
				case f != api.OK && f != api.ErrForm || (s == nil) != (f != api.OK):
					t.Fatalf("Open: %d", f)
				case e == api.OK && f != api.OK:
					t.Fatalf("what was saved isn't there: %d", f)
				case e == api.OK:
					isHard(t, s, h)
				}
			}
		}
	}
}
