package wal_test

import (
	"fmt"
	"math/rand"
	"slices"
	"strings"
	"testing"

	"impost/api"
	"impost/disk"
	"impost/wal"
)

// P18.6

// saves are two Hards each, the second saved behind the first.
func saves() [][2]api.Hard {
	return [][2]api.Hard{
		{based(), turned(voted(3))},
		{based(), turned(term(300), voted(3))},
		{based(), turned(plus(en(5, "e")))},
		{based(), turned(plus(en(5, ""), of(5, 1), en(5, strings.Repeat("x", 99))))},
		{based(), turned(fewer(1))},
		{based(), turned(logged())},
		{based(), turned(term(8), voted(1), fewer(2), plus(en(6, "y"), en(8, "z")))},
		{turned(baseless), turned(baseless, term(6), logged(en(1, "0"), en(6, "6")))},
		{turned(voted(3)), turned(voted(2))},
		{based(), turned(members(1), logged())},
		{based(), turned(on(6, 3), logged(of(3, 5), en(5, "d")))},
		{based(), turned(term(3), logged(en(2, "a"), en(3, "b")))},
		{turned(baseless), based()},
		{{Vote: -1, Members: 1}, {Term: 1, Vote: 0, Members: 1}},
	}
}

// ways are the Hards that a disk may tell behind a Save of h that was broken off: what it was, with some of its records.
func ways(m *model, h api.Hard) []api.Hard {
	if m.why(h) != "" {
		return []api.Hard{bare(m.h), bare(h)}
	}
	_, l := m.steps(h)
	return l
}

// place is where got stands in l, or -1.
func place(l []api.Hard, got api.Hard) int {
	return slices.IndexFunc(l, func(h api.Hard) bool { return same(h, got) })
}

// raised is the Hard of a disk that is opened with all the power that it needs.
func raised(t *testing.T, d *disk.Disk) api.Hard {
	t.Helper()
	d.Arm(-1)
	w, e := wal.Open(d)
	if e != api.OK {
		t.Fatalf("Open: %d", e)
	}
	if n := len(d.Names()); n > 1 {
		t.Fatalf("%q", d.Names())
	}
	return w.Hard()
}

// broken is a disk on which h was saved behind was, with n changes left; and what that Save answered.
func broken(t *testing.T, was *api.Hard, h api.Hard, n int) (*disk.Disk, api.Errno) {
	t.Helper()
	d := disk.New()
	w, _ := wal.Open(d)
	if was != nil {
		if e := w.Save(*was); e != api.OK {
			t.Fatalf("Save: %d", e)
		}
	}
	d.Arm(n)
	return d, w.Save(h)
}

// modelOf is the model behind a Save of was.
func modelOf(t *testing.T, was *api.Hard) *model {
	p := both().opened(t)
	if was != nil {
		p.saved(t, *was)
	}
	return p.m
}

// TestPowerFailsInASave has each number of changes, and each pick there is of what isn't kept: each way comes of one of them, and nothing else of any.
func TestPowerFailsInASave(t *testing.T) {
	for i, c := range saves() {
		m := modelOf(t, &c[0])
		l := ways(m, c[1])
		seen := make([]bool, len(l))
		for n := range 4 {
			// at most this many bytes aren't kept, so that greater picks tear as lesser ones do
			for pick := range 2 * (len(records(laid(c[1])...)) + 20) {
				d, e := broken(t, &c[0], c[1], n)
				torn := make([]int, len(d.Names()))
				for k := range torn {
					torn[k] = pick
				}
				d.Crash(torn...)
				at := place(l, raised(t, d))
				if at < 0 || e == api.OK && at != len(l)-1 {
					t.Fatalf("%d, %d changes, pick %d: way %d, Save %d", i, n, pick, at, e)
				}
				seen[at] = true
			}
		}
		if slices.Contains(seen, false) {
			t.Errorf("%d: seen %v", i, seen)
		}
	}
}

// TestPowerFailsInOpensBehind has it fail in the Save, and then in each of two Opens.
func TestPowerFailsInOpensBehind(t *testing.T) {
	picks := [][]int{nil, {0, 1}, {3, 17}, {40, 41, 42}, {60, 60}, {75, 9}, {200, 300}, {most, most}, {most - 1, most - 1}, {-5, 33}}
	for i, c := range saves() {
		m := modelOf(t, &c[0])
		l := ways(m, c[1])
		for n := range 4 {
			for a := range 4 {
				for b := range 4 {
					for k, pick := range picks {
						d, e := broken(t, &c[0], c[1], n)
						d.Crash(pick...)
						for _, left := range []int{a, b} {
							d.Arm(left)
							if w, e := wal.Open(d); e == api.OK && place(l, w.Hard()) < 0 {
								t.Fatalf("%d: %s", i, brief(w.Hard()))
							}
							d.Crash(picks[(k+1)%len(picks)]...)
						}
						if at := place(l, raised(t, d)); at < 0 || e == api.OK && at != len(l)-1 {
							t.Fatalf("%d, %d changes, %d, %d, picks %v: way %d, Save %d", i, n, a, b, pick, at, e)
						}
					}
				}
			}
		}
	}
}

// TestOpensNeverGoBack opens again and again, with power failing each time: what a first one told all others do.
func TestOpensNeverGoBack(t *testing.T) {
	for i, c := range saves() {
		l := ways(modelOf(t, &c[0]), c[1])
		for n := range 3 {
			for pick := 0; pick < 200; pick += 7 {
				d, _ := broken(t, &c[0], c[1], n)
				d.Crash(pick, pick)
				first := -1
				for left := range 6 {
					d.Arm(left)
					if w, e := wal.Open(d); e == api.OK {
						at := place(l, w.Hard())
						if at < 0 || first >= 0 && at != first {
							t.Fatalf("%d: %d behind %d", i, at, first)
						}
						first = at
					}
					d.Crash(pick/3, pick/2)
				}
				if first != place(l, raised(t, d)) {
					t.Fatalf("%d: not %d any more", i, first)
				}
			}
		}
	}
}

// TestPowerFailsInTheFirstSave has none ahead of it.
func TestPowerFailsInTheFirstSave(t *testing.T) {
	h := based()
	for n := range 3 {
		seen := [2]bool{}
		for pick := range 400 {
			d, e := broken(t, nil, h, n)
			d.Crash(pick)
			got := raised(t, d)
			switch {
			case same(got, bare(h)):
				seen[1] = true
				names(t, d, "wal.1")
			case e != api.OK && same(got, api.Hard{Vote: -1}):
				seen[0] = true
				names(t, d)
			default:
				t.Fatalf("%d, pick %d: Save %d, %s", n, pick, e, brief(got))
			}
		}
		if seen != [3][2]bool{{true, false}, {true, true}, {false, true}}[n] {
			t.Errorf("%d: %v", n, seen)
		}
	}
}

// TestWhatWasSavedLasts saves again and again, with any crash behind each: no Hard is lost, whatever is torn.
func TestWhatWasSavedLasts(t *testing.T) {
	draw := rand.New(rand.NewSource(185))
	for range 400 {
		d := disk.New()
		w, _ := wal.Open(d)
		now := drawnHard(draw)
		for range 25 {
			h := drawnNext(draw, now, draw.Intn(4))
			if e := w.Save(h); e == api.ErrArg {
				continue
			} else if e != api.OK {
				t.Fatalf("Save: %d", e)
			}
			now = h
			if draw.Intn(3) > 0 {
				continue
			}
			d.Crash(drawnPicks(draw)...)
			w, _ = wal.Open(d)
			isHard(t, w, bare(now))
		}
	}
}

// TestDrawnFailures has a Save and some Opens behind it fail at drawn places, over and over on one disk.
func TestDrawnFailures(t *testing.T) {
	draw := rand.New(rand.NewSource(186))
	seen := map[string]int{}
	for range 500 {
		p := both().opened(t).saved(t, drawnHard(draw))
		for range 20 {
			h := drawnNext(draw, snapped(p.m.h), draw.Intn(5))
			if wrong(h) != "" {
				continue
			}
			l := ways(p.m, h)
			p.arm(draw.Intn(5) - 1)
			e := p.save(t, h)
			p.crash(drawnPicks(draw)...)
			for p.arm(draw.Intn(4)); p.open(t) != api.OK; p.arm(draw.Intn(4)) {
				p.crash(drawnPicks(draw)...)
			}
			p.arm(-1)
			at := place(l, p.w.Hard())
			if at < 0 || e == api.OK && at != len(l)-1 {
				t.Fatalf("Save %d: way %d of %d, %s", e, at, len(l), brief(p.w.Hard()))
			}
			seen[fmt.Sprint(e == api.OK, at > 0 && at < len(l)-1)]++
		}
	}
	if seen["true false"] < 500 || seen["false false"] < 500 || seen["false true"] < 50 {
		t.Errorf("%v", seen)
	}
}
