package wal_test

import (
	"bytes"
	"fmt"
	"math/rand"
	"slices"
	"testing"

	"impost/api"
	"impost/disk"
	"impost/wal"
)

// P18.3

// sized is a Hard that can be told from others by the number of its entries.
func sized(n int) api.Hard {
	return api.Hard{Term: 9, Vote: 2, Members: 7, Log: slices.Repeat(log(en(4, "e")), n)}
}

// whole is a segment's file that says sized(n), with votes and cuts behind the ready.
func whole(n int) []byte {
	head := sized(n + 1)
	head.Term, head.Vote = 8, -1
	return records(append(laid(head), vote(9, 2), cut(n))...)
}

// unready is a file that has all of a segment but its ready.
func unready(n int) []byte {
	l := laid(sized(n))
	return records(l[:len(l)-1]...)
}

func TestOpenOfNil(t *testing.T) {
	if w, e := wal.Open(nil); w != nil || e != api.ErrArg {
		t.Errorf("%v, %d", w, e)
	}
}

func TestOpenOfNone(t *testing.T) {
	for _, others := range [][]string{nil, {"snap.1"}, {"wal", "wal.", "wal.01", "other"}} {
		d := disk.New()
		for _, name := range others {
			d.Append(name, whole(3))
		}
		d.Arm(0)
		w, e := wal.Open(d)
		if w == nil || e != api.OK || d.Off() {
			t.Fatalf("%q: %v, %d, Off %v", others, w, e, d.Off())
		}
		isHard(t, w, api.Hard{Vote: -1})
		slices.Sort(others)
		names(t, d, others...)
	}
}

// TestOpenOfOne has a segment of each width of number, whole and not, with bytes behind it and without.
func TestOpenOfOne(t *testing.T) {
	for _, n := range []int{0, 1, 2, 9, 10, 99, 12345, 1 << 32, 10000000000000, lastNumber - 1, lastNumber} {
		for _, tail := range [][]byte{nil, {7}, framed([]byte("no record"))} {
			p := both()
			p.lay(file(n), append(whole(3), tail...))
			p.opened(t)
			isHard(t, p.w, sized(3))
			names(t, p.d, file(n))
			holds(t, p.d, file(n), whole(3))
			p.d.Crash()
			holds(t, p.d, file(n), whole(3))
			p = both()
			p.lay(file(n), append(unready(3), tail...))
			p.opened(t)
			isHard(t, p.w, api.Hard{Vote: -1})
			names(t, p.d)
		}
	}
}

// TestOpenTakesTheGreatest has numbers whose names rise otherwise than they do.
func TestOpenTakesTheGreatest(t *testing.T) {
	d := disk.New()
	for n, at := range []int{0, 2, 9, 10, 99, 100, 20000000000000, 9999999999999} {
		d.Append(file(at), whole(n))
	}
	w, e := wal.Open(d)
	if e != api.OK {
		t.Fatal(e)
	}
	isHard(t, w, sized(6))
	names(t, d, file(20000000000000))
}

// TestOpenPassesOverWhatIsNotWhole has greater numbers that don't count, and lesser ones that do.
func TestOpenPassesOverWhatIsNotWhole(t *testing.T) {
	for _, torn := range [][]byte{nil, {1}, unready(5), whole(5)[:10], records(ready()), records(entry(en(1, "")), ready()), append([]byte{0}, whole(5)...)} {
		d := disk.New()
		d.Append("other", whole(4))
		d.Append("wal.2", whole(1))
		d.Append("wal.5", torn)
		d.Append("wal.10", whole(2))
		d.Append("wal.11", torn)
		d.Append("wal.100", torn)
		w, e := wal.Open(d)
		if e != api.OK {
			t.Fatal(e)
		}
		isHard(t, w, sized(2))
		names(t, d, "other", "wal.10")
		holds(t, d, "wal.10", whole(2))
	}
}

// TestOpenInOrder lets one change more be done each time, and looks at what stands there, by hand.
func TestOpenInOrder(t *testing.T) {
	torn := append(whole(2), 1, 2, 3)
	for n, want := range [][]string{
		{"wal.10", "wal.100", "wal.2", "wal.3", "wal.99"},
		{"wal.10", "wal.100", "wal.2", "wal.3", "wal.99"},
		{"wal.10", "wal.100", "wal.3", "wal.99"},
		{"wal.10", "wal.100", "wal.99"},
		{"wal.100", "wal.99"},
		{"wal.99"},
		{"wal.99"},
	} {
		d := disk.New()
		d.Append("wal.2", whole(1))
		d.Append("wal.100", unready(1))
		d.Append("wal.99", torn)
		d.Append("wal.3", unready(4))
		d.Append("wal.10", whole(5))
		d.Arm(n)
		w, e := wal.Open(d)
		if n < 6 && (w != nil || e != api.ErrDown || !d.Off()) || n == 6 && (w == nil || e != api.OK || d.Off()) {
			t.Fatalf("%d: %v, %d", n, w, e)
		}
		names(t, d, want...)
		holds(t, d, "wal.99", torn[:len(torn)-min(n, 1)*3])
		// the Sync comes last: nothing of the file is kept ahead of it
		d.Crash()
		holds(t, d, "wal.99", whole(2)[:n/6*len(whole(2))])
	}
}

// TestOpenWithoutPower has nothing to do, or a change of each kind, the first of which is refused.
func TestOpenWithoutPower(t *testing.T) {
	for _, c := range []struct {
		what string
		lay  func(d *disk.Disk)
		want api.Errno
	}{
		{"nothing", func(d *disk.Disk) {}, api.OK},
		{"no segment", func(d *disk.Disk) { d.Append("wal.01", whole(1)) }, api.OK},
		{"a cut", func(d *disk.Disk) { d.Append("wal.1", append(whole(1), 0)) }, api.ErrDown},
		{"a removal", func(d *disk.Disk) { d.Append("wal.1", unready(1)) }, api.ErrDown},
		{"a sync", func(d *disk.Disk) { d.Append("wal.1", whole(1)) }, api.ErrDown},
		{"all", func(d *disk.Disk) { d.Append("wal.2", unready(1)); d.Append("wal.1", append(whole(1), 0)) }, api.ErrDown},
	} {
		d := disk.New()
		c.lay(d)
		was := files(d)
		d.Arm(0)
		d.Append("z", nil)
		w, e := wal.Open(d)
		if e != c.want || (w == nil) != (e != api.OK) || !d.Off() {
			t.Errorf("%s: %v, %d", c.what, w, e)
		}
		if fmt.Sprint(files(d)) != fmt.Sprint(was) {
			t.Errorf("%s: %q became %q", c.what, was, files(d))
		}
		if w != nil {
			isHard(t, w, api.Hard{Vote: -1})
			if e := w.Save(sized(1)); e != api.ErrDown {
				t.Errorf("%s: Save: %d", c.what, e)
			}
		}
	}
}

// TestOpenAgain has nothing left to do but a sync.
func TestOpenAgain(t *testing.T) {
	p := both()
	for n := range 9 {
		p.lay(file(n), append(whole(n), 1))
	}
	p.opened(t)
	for range 3 {
		p.arm(1)
		p.opened(t)
		isHard(t, p.w, sized(8))
		names(t, p.d, "wal.8")
		if e := p.d.Sync("wal.8"); e != api.ErrDown {
			t.Fatalf("Open had %d left", e)
		}
		p.twin.Sync("wal.8")
		p.crash()
	}
}

// TestOpenOfDrawn has files drawn, a number of changes and a crash, and goes on till an Open is through.
func TestOpenOfDrawn(t *testing.T) {
	draw := rand.New(rand.NewSource(183))
	seen := map[api.Errno]int{}
	for range 6000 {
		p := both()
		for range draw.Intn(7) {
			name, b := drawnFile(draw)
			p.lay(name, b)
			if draw.Intn(2) == 0 {
				p.d.Sync(name)
				p.twin.Sync(name)
			}
		}
		for {
			p.arm(draw.Intn(5))
			e := p.open(t)
			if seen[e]++; e == api.OK {
				break
			}
			p.crash(drawnPicks(draw)...)
			p.alikeFiles(t)
		}
		p.crash(drawnPicks(draw)...)
		p.alike(t)
	}
	if seen[api.OK] < 3000 || seen[api.ErrDown] < 2000 || len(seen) != 2 {
		t.Errorf("%v", seen)
	}
}

// drawnFile is a segment, or what is near to one.
func drawnFile(draw *rand.Rand) (string, []byte) {
	name := []string{"wal.0", "wal.1", "wal.2", "wal.9", "wal.10", "wal.11", "wal.100", "wal.09", "wal.x", "z"}[draw.Intn(10)]
	b := whole(draw.Intn(4))
	switch draw.Intn(6) {
	case 0:
		b = unready(draw.Intn(4))
	case 1:
		b = b[:draw.Intn(len(b)+1)]
	case 2:
		b = slices.Concat(b, bytes.Repeat([]byte{byte(draw.Intn(3))}, draw.Intn(12)))
	case 3:
		b[draw.Intn(len(b))] ^= 1 << draw.Intn(8)
	}
	return name, b
}

func drawnPicks(draw *rand.Rand) []int {
	l := make([]int, draw.Intn(9))
	for k := range l {
		l[k] = draw.Intn(400)
	}
	return l
}
