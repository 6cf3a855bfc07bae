package disk_test

import (
	"slices"
	"testing"

	"impost/disk"
)

// P16.4: Crash

// torn1 is a disk with one file, "a", of which the first bytes, so many, are kept.
func torn1(t *testing.T, p []byte, kept int) *disk.Disk {
	t.Helper()
	d := disk.New()
	fine(t, d, app("a", p[:kept]...), syn("a"), app("a", p[kept:]...))
	return d
}

// TestCrashByHand has the picks 0 to 11 of three bytes that aren't kept behind one that is, written out.
func TestCrashByHand(t *testing.T) {
	for pick, want := range [][]byte{
		{1}, {1, 2}, {1, 2, 3}, {1, 2, 3, 4},
		{1}, {1, 0xfd}, {1, 2, 0xfc}, {1, 2, 3, 0xfb},
		{1}, {1, 2}, {1, 2, 3}, {1, 2, 3, 4},
		{1}, {1, 0xfd}, {1, 2, 0xfc}, {1, 2, 3, 0xfb},
	} {
		d := torn1(t, []byte{1, 2, 3, 4}, 1)
		d.Crash(pick)
		has(t, d, "a", want...)
		for _, again := range []int{0, 1, 2, 3, 5, most} {
			d.Crash(again)
			has(t, d, "a", want...)
		}
	}
}

// TestCrashOfEachRest has each number of bytes that are kept and that aren't, each rest of it, and quotients that are even and odd.
func TestCrashOfEachRest(t *testing.T) {
	text := []byte{0x00, 0xff, 0x55, 0x0f, 0x80, 0x01, 0x7e, 0x61, 0x00, 0x33}
	for kept := range 4 {
		for loose := range 7 {
			p := text[:kept+loose]
			for quotient := range 6 {
				for rest := range loose + 1 {
					d := torn1(t, p, kept)
					d.Crash(quotient*(loose+1) + rest)
					want := slices.Clone(p[:kept+rest])
					if rest > 0 && quotient%2 == 1 {
						want[len(want)-1] = ^want[len(want)-1]
					}
					has(t, d, "a", want...)
					d.Crash(1)
					has(t, d, "a", want...)
				}
			}
		}
	}
}

// TestCrashOfLongFiles has more bytes that aren't kept than a byte, or two of them, can count.
func TestCrashOfLongFiles(t *testing.T) {
	for _, loose := range []int{254, 255, 256, 257, 65534, 65535, 65536, 70000} {
		p := make([]byte, loose+2)
		for i := range p {
			p[i] = byte(i * 7)
		}
		for _, rest := range []int{0, 1, 255, 256, loose / 2, loose - 1, loose} {
			if rest > loose {
				continue
			}
			for _, quotient := range []int{0, 1, 2, 3} {
				d := torn1(t, p, 2)
				d.Crash(quotient*(loose+1) + rest)
				want := slices.Clone(p[:2+rest])
				if rest > 0 && quotient%2 == 1 {
					want[len(want)-1] ^= 255
				}
				if got, ok := d.Read("a"); !ok || !slices.Equal(got, want) {
					t.Fatalf("%d loose, rest %d, quotient %d: %d bytes, not %d", loose, rest, quotient, len(got), len(want))
				}
			}
		}
	}
}

// TestCrashTurnsEachBit has each byte as the last one that stays.
func TestCrashTurnsEachBit(t *testing.T) {
	for b := range 256 {
		d := torn1(t, []byte{5, byte(b), 6}, 0)
		d.Crash(6)
		has(t, d, "a", 5, byte(255-b))
		d = torn1(t, []byte{5, byte(b), 6}, 1)
		d.Crash(4)
		has(t, d, "a", 5, byte(255-b))
		d = torn1(t, []byte{byte(b)}, 0)
		d.Crash(3)
		has(t, d, "a", byte(255-b))
	}
}

// TestCrashTurnsNothingThatIsKept has odd quotients beside a rest of 0, and files of which all is kept.
func TestCrashTurnsNothingThatIsKept(t *testing.T) {
	p := []byte{1, 2, 3, 4}
	for kept := range len(p) + 1 {
		for quotient := range 8 {
			d := torn1(t, p, kept)
			d.Crash(quotient * (len(p) - kept + 1))
			has(t, d, "a", p[:kept]...)
		}
	}
	for _, pick := range []int{0, 1, 2, 3, 255, 1 << 40, most - 1, most, -1, least} {
		d := torn1(t, p, 4)
		d.Crash(pick)
		has(t, d, "a", p...)
		d = torn1(t, nil, 0)
		d.Crash(pick)
		has(t, d, "a")
	}
}

// TestCrashOfTheEdges has the greatest and the least numbers; the greatest is odd, and 2^63 - 1 is 7 times 1317624576693539401.
func TestCrashOfTheEdges(t *testing.T) {
	for i, r := range []struct {
		p    []byte
		pick int
		want []byte
	}{
		{[]byte{1}, most, []byte{0xfe}},
		{[]byte{1}, most - 1, nil},
		{[]byte{1}, most - 2, []byte{1}},
		{[]byte{1, 2}, most, []byte{1}},
		{[]byte{1, 2, 3, 4, 5, 6}, most, nil},
		{[]byte{1, 2, 3, 4, 5, 6}, most - 1, []byte{1, 2, 3, 4, 5, 6}},
		{[]byte{1, 2, 3, 4, 5, 6}, most - 8, []byte{1, 2, 3, 4, 5, 0xf9}},
		{[]byte{1, 2, 3}, least, nil},
		{[]byte{1, 2, 3}, least + 1, nil},
		{[]byte{1, 2, 3}, -1, nil},
		{[]byte{1, 2, 3}, -3, nil},
		{[]byte{1, 2, 3}, -5, nil},
		{[]byte{1, 2, 3}, 1 << 32, nil},
		{[]byte{1, 2, 3}, 1<<32 + 1, []byte{1}},
		{[]byte{1, 2, 3}, 1<<32 + 5, []byte{0xfe}},
		{[]byte{1, 2, 3}, 1<<40 + 7, []byte{1, 2, 0xfc}},
	} {
		d := torn1(t, r.p, 0)
		d.Crash(r.pick)
		if got, ok := d.Read("a"); !ok || !slices.Equal(got, r.want) {
			t.Errorf("%d: % x, %v, not % x", i, got, ok, r.want)
		}
	}
}

// five is a disk of five files, made in no order, each with its own number of bytes that aren't kept behind one that is.
func five(t *testing.T) *disk.Disk {
	t.Helper()
	d := disk.New()
	for _, c := range []string{"c", "a", "e", "B", "d"} {
		fine(t, d, app(c, c[0]), syn(c), app(c, 1, 2, 3))
	}
	return d
}

// TestEachFileHasThePickAtItsPlace has fewer picks than files, as many, and more.
func TestEachFileHasThePickAtItsPlace(t *testing.T) {
	names := []string{"B", "a", "c", "d", "e"}
	left := [][]byte{{}, {1}, {1, 2}, {1, 2, 3}, {}, {0xfe}, {1, 0xfd}, {1, 2, 0xfc}}
	for _, picks := range [][]int{
		nil, {}, {0}, {1}, {2}, {7}, {0, 1}, {1, 0}, {3, 2, 1}, {1, 2, 3, 5, 6}, {6, 5, 3, 2, 1}, {0, 0, 0, 0, 1}, {0, 0, 0, 0, 0, 7}, {7, 6, 5, 4, 3, 2, 1, 0}, {-1, 1, -7, 2, least}, {1, -1}, {5, -5, 5, -5, 5, -5},
	} {
		d := five(t)
		d.Crash(picks...)
		for at, name := range names {
			pick := 0
			if at < len(picks) && picks[at] > 0 {
				pick = picks[at]
			}
			has(t, d, name, append([]byte{name[0]}, left[pick]...)...)
		}
		if got := d.Names(); !slices.Equal(got, names) {
			t.Errorf("%v: %q", picks, got)
		}
	}
}

// TestPlacesAreThoseOfNow has files renamed and removed ahead of the crash.
func TestPlacesAreThoseOfNow(t *testing.T) {
	d := five(t)
	fine(t, d, ren("e", "A"), rem("c"), ren("B", "x"))
	d.Crash(1, 2, 3, 5)
	has(t, d, "A", 'e', 1)
	has(t, d, "a", 'a', 1, 2)
	has(t, d, "d", 'd', 1, 2, 3)
	has(t, d, "x", 'B', 0xfe)
}

// TestWhatStaysIsKept appends behind a crash, and lets the power fail again.
func TestWhatStaysIsKept(t *testing.T) {
	d := torn1(t, []byte{1, 2, 3, 4, 5}, 2)
	d.Crash(2)
	has(t, d, "a", 1, 2, 3, 4)
	fine(t, d, app("a", 6, 7))
	d.Crash(1)
	has(t, d, "a", 1, 2, 3, 4, 6)
	fine(t, d, app("a", 8, 9))
	d.Crash(4)
	has(t, d, "a", 1, 2, 3, 4, 6, 0xf7)
	fine(t, d, cut("a", 3), app("a", 9))
	d.Crash()
	has(t, d, "a", 1, 2, 3)
}

// TestCrashTakesNoFileAway leaves empty those that nothing was kept of.
func TestCrashTakesNoFileAway(t *testing.T) {
	d := disk.New()
	fine(t, d, app("a", 1, 2), app("b"), app("c", 3), syn("c"), cut("c", 0))
	d.Crash()
	has(t, d, "a")
	has(t, d, "b")
	has(t, d, "c")
	if d.Total() != 0 || len(d.Names()) != 3 {
		t.Errorf("%d, %q", d.Total(), d.Names())
	}
}
