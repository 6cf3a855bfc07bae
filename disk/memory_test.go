package disk_test

import (
	"bytes"
	"math/rand"
	"slices"
	"testing"
	"unsafe"

	"impost/api"
	"impost/disk"
)

// R1, R2, R4, R5

// roomy is p with spare room that has something in it.
func roomy(p []byte) []byte {
	out := append(make([]byte, 0, len(p)+9), p...)
	for i := len(p); i < cap(out); i++ {
		out[:cap(out)][i] = 0x77
	}
	return out
}

// apart tells whether two lists share no memory, their spare room included.
func apart(a, b []byte) bool {
	if cap(a) == 0 || cap(b) == 0 {
		return true
	}
	from, from2 := uintptr(unsafe.Pointer(unsafe.SliceData(a))), uintptr(unsafe.Pointer(unsafe.SliceData(b)))
	return from+uintptr(cap(a)) <= from2 || from2+uintptr(cap(b)) <= from
}

// TestAppendedBytesStay has lists of several lengths, refused and not, put ahead of, between and behind others.
func TestAppendedBytesStay(t *testing.T) {
	for n := range 70 {
		for _, name := range []string{"a", "new", "", "a b"} {
			d := laid(t, false)
			p := roomy(bytes.Repeat([]byte{byte(n + 1)}, n))
			was := slices.Clone(p[:cap(p)])
			d.Append(name, p)
			d.Append("a", []byte{9, 9, 9})
			d.Append(name, []byte{8})
			d.Cut(name, 1)
			d.Append(name, []byte{6, 6, 6, 6})
			d.Crash(most, 1, 4, 5, 7)
			d.Append(name, []byte{5})
			if !bytes.Equal(p[:cap(p)], was) {
				t.Fatalf("Append of %d bytes to %q turned % x into % x", n, name, was, p[:cap(p)])
			}
		}
	}
}

// TestAppendedBytesMayBeTurned turns them, with their spare room, and looks at the file.
func TestAppendedBytesMayBeTurned(t *testing.T) {
	for n := range 70 {
		d, p := disk.New(), roomy(bytes.Repeat([]byte{byte(n + 1)}, n))
		want := slices.Clone(p)
		fine(t, d, app("a", p...), app("b", 1), app("b", p...))
		clear(p[:cap(p)])
		has(t, d, "a", want...)
		has(t, d, "b", append([]byte{1}, want...)...)
	}
}

// TestSpareRoomIsNotRead appends a piece of a list (R5).
func TestSpareRoomIsNotRead(t *testing.T) {
	all := []byte{1, 2, 3, 4, 5}
	for n := range len(all) + 1 {
		d := disk.New()
		fine(t, d, app("a", all[:n]...), app("a", 9))
		has(t, d, "a", append(slices.Clone(all[:n]), 9)...)
	}
}

// TestWhatIsReadMayBeTurned turns what Read answered, its spare room too, ahead of more changes and behind them.
func TestWhatIsReadMayBeTurned(t *testing.T) {
	for n := range 70 {
		d, want := disk.New(), bytes.Repeat([]byte{byte(n + 1)}, n)
		fine(t, d, app("a", want...), app("z", 7))
		first, _ := d.Read("a")
		second, _ := d.Read("a")
		if !apart(first, second) {
			t.Fatal("two answers share memory")
		}
		clear(first[:cap(first)])
		has(t, d, "a", want...)
		if !bytes.Equal(second, want) {
			t.Fatalf("% x, not % x", second, want)
		}
		_ = append(second, 1, 2, 3)
		fine(t, d, app("a", 4))
		has(t, d, "a", append(slices.Clone(want), 4)...)
		has(t, d, "z", 7)
	}
}

// TestWhatWasReadStays does all changes behind a Read, whose answer is what it was.
func TestWhatWasReadStays(t *testing.T) {
	for _, n := range []int{0, 1, 5, 8, 100} {
		d, want := disk.New(), bytes.Repeat([]byte{3}, n)
		fine(t, d, app("a", want...), app("b", 1))
		got, _ := d.Read("a")
		names := d.Names()
		fine(t, d, cut("a", n/2), app("a", 8, 8, 8, 8, 8, 8), ren("a", "b"), app("a", 9))
		d.Crash(most, 8)
		fine(t, d, rem("b"), app("c", 1), rem("a"))
		if !bytes.Equal(got, want) || !slices.Equal(names, []string{"a", "b"}) {
			t.Errorf("%d: % x, %q", n, got, names)
		}
	}
}

// TestWhatWasReadIsAppended appends to a file what was read of it.
func TestWhatWasReadIsAppended(t *testing.T) {
	d := disk.New()
	fine(t, d, app("a", 1, 2))
	want := []byte{1, 2}
	for range 6 {
		p, _ := d.Read("a")
		fine(t, d, app("a", p...))
		want = append(want, want...)
		clear(p)
		has(t, d, "a", want...)
	}
}

func TestNamesMayBeTurned(t *testing.T) {
	d := disk.New()
	fine(t, d, app("a", 1), app("b", 2), app("c", 3), rem("c"))
	got, other := d.Names(), d.Names()
	all := got[:cap(got)]
	for i := range all {
		all[i] = "zzz"
	}
	_ = append(got[:1], "q")
	if !slices.Equal(other, []string{"a", "b"}) || !slices.Equal(d.Names(), []string{"a", "b"}) {
		t.Errorf("%q, %q", other, d.Names())
	}
	fine(t, d, app("c", 4))
	has(t, d, "a", 1)
	has(t, d, "b", 2)
	has(t, d, "c", 4)
}

// text is a text that lies in p.
func text(p []byte) string { return unsafe.String(unsafe.SliceData(p), len(p)) }

// TestNamesAreTheDisksOwn turns the memory of names that were handed in: the disk must not lean on it.
func TestNamesAreTheDisksOwn(t *testing.T) {
	first, again, from, to, onto := []byte("file"), []byte("file"), []byte("file"), []byte("moved"), []byte("other")
	d := disk.New()
	fine(t, d, app("other", 2), app(text(first), 1), app(text(again), 1))
	clear(first)
	clear(again)
	has(t, d, "file", 1, 1)
	fine(t, d, ren(text(from), text(to)))
	clear(from)
	clear(to)
	has(t, d, "moved", 1, 1)
	if got := d.Names(); !slices.Equal(got, []string{"moved", "other"}) {
		t.Errorf("%q", got)
	}
	fine(t, d, ren("moved", text(onto)))
	clear(onto)
	has(t, d, "other", 1, 1)
	if got := d.Names(); !slices.Equal(got, []string{"other"}) {
		t.Errorf("%q", got)
	}
}

// TestPicksStay has picks below 0, more than files, and spare room.
func TestPicksStay(t *testing.T) {
	all := []int{5, -1, least, most, 0, 7, 8, 9, -3}
	for n := range len(all) + 1 {
		d, picks := five(t), slices.Clone(all)
		d.Crash(picks[:n]...)
		if !slices.Equal(picks, all) {
			t.Fatalf("%d picks became %v", n, picks)
		}
		names, was := picture(t, d)
		clear(picks)
		if got, is := picture(t, d); !slices.Equal(got, names) || !slices.Equal(is, was) {
			t.Fatalf("%q, not %q", is, was)
		}
	}
}

// TestPicksBehindTheirLengthAreNotRead crashes with a piece of a list (R5).
func TestPicksBehindTheirLengthAreNotRead(t *testing.T) {
	d, picks := five(t), []int{1, 1, 1, 1, 1}
	d.Crash(picks[:2]...)
	has(t, d, "B", 'B', 1)
	has(t, d, "a", 'a', 1)
	has(t, d, "c", 'c')
	has(t, d, "e", 'e')
}

// TestNothingPanics asks anything of disks, with and without power (R1).
func TestNothingPanics(t *testing.T) {
	draw := rand.New(rand.NewSource(168))
	names := append(badNames(), "a", "b", "c")
	numbers := []int{least, least + 1, -1, 0, 1, 2, 3, 1 << 31, 1 << 32, most - 1, most}
	d := disk.New()
	for range 20000 {
		name, to, n := names[draw.Intn(len(names))], names[draw.Intn(len(names))], numbers[draw.Intn(len(numbers))]
		for _, e := range []api.Errno{app(name, 1, 2).on(d), app(to).on(d), cut(name, n).on(d), ren(name, to).on(d), syn(to).on(d), rem(to).on(d)} {
			if e < api.OK || e > api.ErrPath {
				t.Fatalf("%d", e)
			}
		}
		d.Read(name)
		if draw.Intn(9) == 0 {
			d.Arm(n)
		}
		if draw.Intn(9) == 0 {
			d.Crash(n, numbers[draw.Intn(len(numbers))])
		}
	}
}
