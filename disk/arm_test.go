package disk_test

import (
	"slices"
	"testing"

	"impost/api"
	"impost/disk"
)

// P16.4: Arm

// each are changes that laid's disk does, one of them again and again too, such as alter nothing among them.
func each() []change {
	return []change{app("a", 9), app("new", 9), app("a"), app("new"), syn("a"), syn("b"), syn("e"), cut("a", 0), cut("b", 1), cut("e", 0), ren("a", "a"), ren("e", "e")}
}

// TestArmCounts does each change till the power goes.
func TestArmCounts(t *testing.T) {
	for _, c := range each() {
		for _, n := range []int{0, 1, 2, 3, 17, 300} {
			d := laid(t, false)
			d.Arm(n)
			if d.Off() {
				t.Errorf("Arm(%d) took the power", n)
			}
			for at := range n {
				if e := c.on(d); e != api.OK || d.Off() {
					t.Fatalf("Arm(%d), %s %q: number %d: %d", n, c.kind, c.name, at, e)
				}
			}
			for range 3 {
				if e := c.on(d); e != api.ErrDown || !d.Off() {
					t.Fatalf("Arm(%d), %s %q: behind it: %d", n, c.kind, c.name, e)
				}
			}
		}
	}
	d := laid(t, false)
	d.Arm(5)
	fine(t, d, ren("a", "x"), ren("x", "b"), rem("b"), rem("c"), rem("e"))
	if e := d.Append("a", nil); e != api.ErrDown || !d.Off() || len(d.Names()) != 0 {
		t.Errorf("%d, %v, %q", e, d.Off(), d.Names())
	}
}

// TestTheChangeThatFindsNoneLeft takes the power, and does nothing else, whichever it is.
func TestTheChangeThatFindsNoneLeft(t *testing.T) {
	for _, c := range append(each(), ren("a", "b"), ren("a", "x"), ren("b", "a"), rem("a"), rem("e")) {
		for _, n := range []int{0, 2} {
			d, twin := laid(t, false), laid(t, false)
			d.Arm(n)
			for range n {
				fine(t, d, syn("b"))
				fine(t, twin, syn("b"))
			}
			if e := c.on(d); e != api.ErrDown || !d.Off() {
				t.Errorf("%s %q %q: %d, %v", c.kind, c.name, c.to, e, d.Off())
			}
			same(t, c, d, twin)
		}
	}
}

func TestArmOfBelow0(t *testing.T) {
	for _, n := range []int{-1, -2, -300, least + 1, least} {
		for _, ahead := range [][]int{nil, {0}, {1}, {5}, {most}, {-1}} {
			d := laid(t, false)
			for _, m := range ahead {
				d.Arm(m)
			}
			d.Arm(n)
			for range 500 {
				fine(t, d, app("a", 1), ren("a", "x"), ren("x", "a"), syn("a"), cut("a", 0))
			}
			if d.Off() {
				t.Errorf("Arm(%d): no power", n)
			}
		}
	}
}

func TestArmOfTheGreatest(t *testing.T) {
	for _, n := range []int{most, most - 1, 1 << 32, 1 << 31} {
		d := laid(t, false)
		d.Arm(n)
		for range 500 {
			fine(t, d, syn("a"))
		}
	}
}

// TestArmAgain has the newest number count, not that and what was left.
func TestArmAgain(t *testing.T) {
	for _, was := range []int{-1, 0, 1, 2, 5, most} {
		for used := range 3 {
			for _, n := range []int{0, 1, 2, 4} {
				d := laid(t, false)
				d.Arm(was)
				for range used {
					if was < 0 || was > used {
						fine(t, d, syn("a"))
					}
				}
				d.Arm(n)
				for range n {
					fine(t, d, syn("a"))
				}
				if e := d.Sync("a"); e != api.ErrDown || !d.Off() {
					t.Errorf("Arm(%d) behind Arm(%d): %d", n, was, e)
				}
			}
		}
	}
}

// TestWithoutPower asks for all there is: but for a Crash nothing brings the power back.
func TestWithoutPower(t *testing.T) {
	d, twin := laid(t, false), laid(t, false)
	d.Arm(0)
	d.Sync("a")
	for _, n := range []int{-1, 0, 1, 5, most, least} {
		d.Arm(n)
		for _, c := range append(each(), ren("a", "b"), rem("a"), app("", 1), app("a", make([]byte, room+1)...), syn("q"), cut("a", -1), cut("q", 99), ren("a", ""), ren("q", "a b"), rem("q"), rem("")) {
			if e := c.on(d); e != api.ErrDown || !d.Off() {
				t.Errorf("%s %q %q %d: %d, %v", c.kind, c.name, c.to, c.n, e, d.Off())
			}
		}
	}
	if !slices.Equal(d.Names(), []string{"a", "b", "c", "e"}) || d.Total() != 8 {
		t.Errorf("%q, %d", d.Names(), d.Total())
	}
	has(t, d, "a", 1, 2, 3, 4, 5)
	has(t, d, "b", 6)
	has(t, d, "c", 7, 8)
	has(t, d, "e")
	hasNot(t, d, "q")
	if !d.Off() {
		t.Error("looking brought the power back")
	}
	same(t, "without power", d, twin)
	if d.Off() {
		t.Error("no power behind a crash")
	}
}

// TestLookingDoesNotCount reads, and reads names that aren't there, with few changes left.
func TestLookingDoesNotCount(t *testing.T) {
	for n := range 3 {
		d := laid(t, false)
		d.Arm(n)
		for range 10 {
			d.Read("a")
			d.Read("q")
			d.Read("")
			d.Names()
			d.Total()
			d.Off()
		}
		for range n {
			fine(t, d, syn("a"))
		}
		if e := d.Sync("a"); e != api.ErrDown {
			t.Errorf("%d: %d", n, e)
		}
	}
}

// TestCrashDisarms has any number of changes left behind it, with power and without it ahead.
func TestCrashDisarms(t *testing.T) {
	for _, n := range []int{-1, 0, 1, 2, most} {
		for _, tried := range []int{0, 1, 5} {
			for _, again := range []int{-1, 0, 3} {
				d := laid(t, false)
				d.Arm(n)
				for range tried {
					d.Sync("b")
				}
				if again > 0 {
					d.Arm(again)
				}
				d.Crash()
				if d.Off() {
					t.Fatalf("Arm(%d), Crash: no power", n)
				}
				for range 300 {
					fine(t, d, app("a", 1), cut("a", 0), syn("c"))
				}
			}
		}
	}
}

// TestCrashOfNothing has a disk without files: power comes back all the same.
func TestCrashOfNothing(t *testing.T) {
	d := disk.New()
	d.Arm(0)
	if e := d.Append("a", nil); e != api.ErrDown {
		t.Errorf("%d", e)
	}
	d.Crash(1, 2, 3)
	if d.Off() || len(d.Names()) != 0 || d.Total() != 0 {
		t.Errorf("%v, %q, %d", d.Off(), d.Names(), d.Total())
	}
	fine(t, d, app("a", 1))
	has(t, d, "a", 1)
}
