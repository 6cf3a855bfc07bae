package store_test

import (
	"bytes"
	"fmt"
	"math/rand"
	"slices"
	"strings"
	"testing"

	"impost/api"
	"impost/disk"
	"impost/store"
	"impost/wal"
)

// P19.1

// TestBytesOfASnapshotFile has one written out byte by byte, its sum aside, and others by the model.
func TestBytesOfASnapshotFile(t *testing.T) {
	d := disk.New()
	s, _ := store.Open(d)
	if e := s.Save(api.Hard{Term: 1, Base: 3, BaseTerm: 1, Members: 7, Snap: "abc"}); e != api.OK {
		t.Fatal(e)
	}
	head := []byte{7, 0, 0, 0, 6, 2, 14, 6, 'a', 'b', 'c'}
	c := koopman(head)
	holds(t, d, "snap.3", append(head, byte(c), byte(c>>8), byte(c>>16), byte(c>>24)))
	for _, h := range []api.Hard{
		based(),
		{Term: 1, Base: 1, BaseTerm: 1, Members: 1, Snap: "\x00"},
		{Term: 64, Base: 63, BaseTerm: 64, Members: 63, Snap: strings.Repeat("\xff", 63)},
		{Term: 63, Base: 64, BaseTerm: 63, Members: 64, Snap: strings.Repeat("\x80", 64)},
		{Term: 8192, Base: 8191, BaseTerm: 8192, Members: 127, Snap: strings.Repeat("Zoë", 2730)},
		{Term: topTerm, Base: topIndex, BaseTerm: topTerm, Members: 127, Snap: strings.Repeat("q", longImage)},
		{Term: topTerm, Base: topIndex - 1, BaseTerm: topTerm - 1, Members: 1, Snap: "q", Log: log(en(topTerm, "x"))},
	} {
		p := from(t, h)
		names(t, p.d, snapName(h.Base), "wal.1")
		holds(t, p.d, snapName(h.Base), snapFile(h))
		p.opened(t)
		isHard(t, p.s, h)
	}
}

// inNumber are names of snapshot files, and outOf those that are near to one.
func inNumber() []string {
	l := []string{"snap.10", "snap.12345", "snap.9999999999999", "snap.10000000000000", "snap.99999999999999", "snap.1099511627777"}
	for k := range 9 {
		l = append(l, snapName(k+1))
	}
	return l
}

func outOf() []string {
	l := []string{
		"snap", "snap.", "snap.0", "snap.00", "snap.01", "snap.007", "snap.00000000000001", "snap.000000000000001", "snap.100000000000000", "snap.999999999999999", "snap.1234567890123456789",
		"snap.+1", "snap.-1", "snap.1a", "snap.a1", "snap.1.", "snap..1", "snap.1.2", "snap.0x1", "snap.1e3", "snap.1_0",
		"Snap.1", "SNAP.1", "snap1", "snap,1", "nap.1", "xsnap.1", "snap.snap.1", "1", ".1",
		"snap.TMP", "snap.tm", "snap.tmp1", "snap.tmp.", "snap.1tmp", "snap.tmpsnap.tmp", "snaptmp", "tmp", "xsnap.tmp",
		"wal", "wal.", "wal.01", "wal.tmp", "wal.x",
	}
	for c := byte(33); c <= 126; c++ {
		if c < '0' || c > '9' {
			l = append(l, "snap."+string(c), "snap.1"+string(c), "snap."+string(c)+"1", "snap.4"+string(c)+"4")
		}
	}
	return l
}

// TestNamesOfSnapshotFiles has each of them removed by an Open and by a Save, and none of those that are near to one.
func TestNamesOfSnapshotFiles(t *testing.T) {
	for _, h := range []api.Hard{turned(baseless), based(), turned(base(10)), turned(base(topIndex - 9))} {
		for _, bySave := range []bool{false, true} {
			d := laid(h)
			s, e := store.Open(d)
			if e != api.OK {
				t.Fatal(e)
			}
			for _, name := range slices.Concat(inNumber(), outOf(), []string{"snap.tmp"}) {
				if h.Base == 0 || name != snapName(h.Base) {
					d.Append(name, []byte("x"))
				}
			}
			segment := "wal.1"
			if bySave {
				h.Base, h.BaseTerm, h.Snap = h.Base+1, 2, "next"
				e = s.Save(h)
				segment = "wal.2"
			} else {
				s, e = store.Open(d)
			}
			if e != api.OK {
				t.Fatal(e)
			}
			isHard(t, s, h)
			want := append(outOf(), segment)
			if h.Base != 0 {
				want = append(want, snapName(h.Base))
			}
			slices.Sort(want)
			names(t, d, slices.Compact(want)...)
		}
	}
}

// P19.2

func TestOpenOfNil(t *testing.T) {
	if s, e := store.Open(nil); s != nil || e != api.ErrArg {
		t.Errorf("%v, %d", s, e)
	}
}

// TestOpenOfNoFile needs no change, and no power.
func TestOpenOfNoFile(t *testing.T) {
	for _, others := range [][]string{nil, {"snap.0", "snap.x", "wal.01", "z"}} {
		p := both()
		for _, name := range others {
			p.lay(name, []byte{1})
		}
		p.arm(0)
		p.opened(t)
		isHard(t, p.s, api.Hard{Vote: -1})
		names(t, p.d, others...)
		if p.d.Off() {
			t.Error("Open changed the disk")
		}
		p.lay("zz", nil)
		p.opened(t)
		isHard(t, p.s, api.Hard{Vote: -1})
	}
}

// TestOpenTellsWhatIsThere has Hards with and without a snapshot, in segments of any number.
func TestOpenTellsWhatIsThere(t *testing.T) {
	for _, h := range []api.Hard{based(), turned(baseless), turned(logged()), turned(base(topIndex-4), voted(3)), turned(snap("s")), turned(snap(strings.Repeat("s", longImage))), {Members: 1}, {Term: 1, Vote: 6, Base: 1, BaseTerm: 1, Members: 127, Snap: "\x00"}} {
		for _, segment := range []string{"wal.0", "wal.1", "wal.77", lastName} {
			p := both()
			p.lay(segment, walFile(h))
			want := []string{segment}
			if h.Base != 0 {
				p.lay(snapName(h.Base), snapFile(h))
				want = []string{snapName(h.Base), segment}
			}
			p.opened(t)
			isHard(t, p.s, h)
			names(t, p.d, want...)
		}
	}
}

// TestOpenTakesTheSnapshotOfItsBase has those of other Bases beside it, right ones and torn ones.
func TestOpenTakesTheSnapshotOfItsBase(t *testing.T) {
	for n := 1; n <= 12; n++ {
		p := both()
		p.lay("wal.1", walFile(turned(base(n))))
		for k := 1; k <= 12; k++ {
			b := snapFile(turned(base(k), snap(fmt.Sprint("of ", k))))
			if k != n && k%3 == 0 {
				b = b[:k]
			}
			p.lay(snapName(k), b)
		}
		p.opened(t)
		isHard(t, p.s, turned(base(n), snap(fmt.Sprint("of ", n))))
		names(t, p.d, snapName(n), "wal.1")
	}
}

// TestOpenWithoutABase has snapshot files beside it, which all go, though one may say the same.
func TestOpenWithoutABase(t *testing.T) {
	for _, segment := range []bool{false, true} {
		p := both()
		want := api.Hard{Vote: -1}
		var left []string
		if segment {
			want, left = turned(baseless), []string{"wal.1"}
			p.lay("wal.1", walFile(want))
		}
		for _, n := range []int{1, 4, 10, topIndex} {
			p.lay(snapName(n), snapFile(turned(base(n))))
		}
		p.lay("snap.0", snapFile(turned(baseless)))
		p.lay("snap.tmp", snapFile(based()))
		p.opened(t)
		isHard(t, p.s, want)
		names(t, p.d, append([]string{"snap.0"}, left...)...)
	}
}

// misformed are bytes that are not those of based's snapshot file, by what is wrong of them.
func misformed() map[string][]byte {
	good := snapFile(based())
	cut := func(n int) []byte { return slices.Clone(good[:len(good)-n]) }
	one := payload(based())
	bad := map[string][]byte{
		"none":                {},
		"a byte":              {0},
		"its length alone":    good[:4],
		"the last byte cut":   cut(1),
		"its sum cut":         cut(4),
		"a byte behind":       append(cut(0), 0),
		"its last one behind": append(cut(0), good[len(good)-1]),
		"a frame behind":      append(cut(0), framed([]byte{0})...),
		"twice":               append(cut(0), good...),
		"a byte ahead":        append([]byte{0}, good...),
		"no frame":            one,
		"an empty payload":    {0, 0, 0, 0, 0, 0, 0, 0},
		"nought ahead":        make([]byte, 64),
		"another Base":        snapFile(turned(base(5))),
		"a lesser Base":       snapFile(turned(base(3))),
		"Base 0":              snapFile(turned(base(0))),
		"a Base below 0":      snapFile(turned(base(-4))),
		"another BaseTerm":    snapFile(turned(baseTerm(3))),
		"a lesser BaseTerm":   snapFile(turned(baseTerm(1))),
		"another Members":     snapFile(turned(members(3))),
		"more Members":        snapFile(turned(members(15))),
		"no Snap":             snapFile(turned(snap(""))),
		"a Snap too long":     snapFile(turned(snap(strings.Repeat("s", longImage+1)))),
		"the greatest frame":  snapFile(turned(snap(strings.Repeat("s", 131072-6)))),
		"a byte too long":     framed(append(slices.Clone(one), 0)),
		"a byte too short":    framed(one[:len(one)-1]),
		"a text too many":     framed(append(slices.Clone(one), text("x")...)),
		"no text":             framed(nums(4, 2, 7)),
		"two numbers":         framed(nums(4, 2)),
		"a number more":       framed(nums(4, 2, 7, 0), text("snap")),
		"a number ahead":      framed(append(nums(1), one...)),
		"a number twice":      framed(slices.Concat(nums(4, 2, 7, 7), text("snap"))),
		"an ill-formed Base":  framed(append([]byte{0x88, 0}, one[1:]...)),
		"another form":        framed(slices.Concat(nums(4, 2, 7), []byte{0x88, 0}, []byte("snap"))),
		"a length below 0":    framed(slices.Concat(nums(4, 2, 7, -4), []byte("snap"))),
		"two frames":          framed(nums(4, 2, 7), text("snap")),
		"other order":         framed(slices.Concat(text("snap"), nums(4, 2, 7))),
		"Term for BaseTerm":   framed(slices.Concat(nums(4, 5, 7), text("snap"))),
		"another sum":         append(cut(4), 1, 2, 3, 4),
		"the sum otherwise":   append(cut(4), good[len(good)-1], good[len(good)-2], good[len(good)-3], good[len(good)-4]),
		"a segment":           walFile(based()),
	}
	return bad
}

// TestOpenOfAMisformedSnapshot has nothing removed but what wal.Open removes.
func TestOpenOfAMisformedSnapshot(t *testing.T) {
	for what, b := range misformed() {
		for _, there := range []bool{true, false} {
			p := both()
			p.lay("wal.2", append(walFile(based()), 1, 2, 3))
			p.lay("wal.1", walFile(turned(base(3))))
			p.lay("wal.3", []byte("torn"))
			for _, name := range []string{"snap.tmp", "snap.3", "snap.5", "snap.40", "snap.04", "snap.0"} {
				p.lay(name, snapFile(based()))
			}
			if there {
				p.lay("snap.4", b)
			}
			want := disk.New()
			for name, b := range files(p.d) {
				want.Append(name, []byte(b))
			}
			wal.Open(want)
			if s, e := store.Open(p.d); s != nil || e != api.ErrForm {
				t.Fatalf("%s, %v: %v, %d", what, there, s, e)
			}
			unchanged(t, p.d, files(want))
			// again, and with a power that would go at the first removal
			p.d.Arm(1)
			if s, e := store.Open(p.d); s != nil || e != api.ErrForm || p.d.Off() {
				t.Fatalf("%s, %v, again: %v, %d", what, there, s, e)
			}
			unchanged(t, p.d, files(want))
			// with the right one in its place all is well
			p.d.Arm(-1)
			p.d.Remove("snap.4")
			p.d.Append("snap.4", snapFile(based()))
			s, e := store.Open(p.d)
			if e != api.OK {
				t.Fatalf("%s, the right one: %d", what, e)
			}
			isHard(t, s, based())
			names(t, p.d, "snap.0", "snap.04", "snap.4", "wal.2")
		}
	}
}

// TestOpenOfATornSnapshot has it cut at each place, and each byte another one in each way.
func TestOpenOfATornSnapshot(t *testing.T) {
	good := snapFile(based())
	refused := func(b []byte) {
		t.Helper()
		d := disk.New()
		d.Append("wal.1", walFile(based()))
		d.Append("snap.4", b)
		if s, e := store.Open(d); s != nil || e != api.ErrForm {
			t.Fatalf("% x: %v, %d", b, s, e)
		}
	}
	for n := range len(good) {
		refused(good[:n])
		for x := 1; x < 256; x++ {
			b := slices.Clone(good)
			b[n] ^= byte(x)
			refused(b)
		}
		refused(append(bytes.Clone(good), good[:n+1]...))
	}
}

// TestOpenOfAnotherHead has each of the three numbers from 0 on, in the wal and in the file.
func TestOpenOfAnotherHead(t *testing.T) {
	for n := range 4 * 4 * 4 {
		for k := range 4 * 4 * 4 {
			h := turned(base(1+n&3), baseTerm(1+n>>2&3), members(1+n>>4), logged())
			g := turned(base(1+k&3), baseTerm(1+k>>2&3), members(1+k>>4))
			d := disk.New()
			d.Append("wal.1", walFile(h))
			d.Append(snapName(h.Base), snapFile(g))
			if s, e := store.Open(d); (e == api.OK) != (n == k) || e != api.OK && (e != api.ErrForm || s != nil) {
				t.Fatalf("%d, %d: %d", n, k, e)
			}
		}
	}
}

// TestOpenOfEachLength has a Snap's length at the edges.
func TestOpenOfEachLength(t *testing.T) {
	for _, n := range []int{0, 1, 2, 63, 64, 8191, 8192, longImage - 1, longImage, longImage + 1, longImage + 2, 2 * longImage} {
		h := turned(snap(strings.Repeat("s", n)))
		d := disk.New()
		d.Append("wal.1", walFile(h))
		d.Append("snap.4", snapFile(h))
		s, e := store.Open(d)
		if n < 1 || n > longImage {
			if s != nil || e != api.ErrForm {
				t.Errorf("%d bytes: %d", n, e)
			}
			continue
		}
		if e != api.OK {
			t.Fatalf("%d bytes: %d", n, e)
		}
		isHard(t, s, h)
	}
}

// manyFiles is a disk on which an Open has one of each to do, in the wal and beside it.
func manyFiles() *disk.Disk {
	d := laid(based())
	d.Append("wal.1", []byte("behind"))
	d.Append("wal.0", walFile(turned(base(3))))
	for _, name := range []string{"snap.tmp", "snap.9", "snap.100", "snap.20", "snap.5", "snap.3", "snap.04", "snap.99999999999999"} {
		d.Append(name, snapFile(based()))
	}
	return d
}

// TestOpenInOrder lets one change more be done each time, and looks at what stands there, by hand: names rise otherwise than their numbers.
func TestOpenInOrder(t *testing.T) {
	all := []string{"snap.04", "snap.100", "snap.20", "snap.3", "snap.4", "snap.5", "snap.9", "snap.99999999999999", "snap.tmp", "wal.0", "wal.1"}
	var gone []string
	for n, name := range []string{"", "", "wal.0", "", "snap.100", "snap.20", "snap.3", "snap.5", "snap.9", "snap.99999999999999", "snap.tmp", ""} {
		gone = append(gone, name)
		d := manyFiles()
		d.Arm(n)
		s, e := store.Open(d)
		if n < 10 && (s != nil || e != api.ErrDown || !d.Off()) || n >= 10 && (s == nil || e != api.OK || d.Off()) {
			t.Fatalf("%d: %v, %d", n, s, e)
		}
		want := slices.DeleteFunc(slices.Clone(all), func(name string) bool { return slices.Contains(gone, name) })
		names(t, d, want...)
		holds(t, d, "snap.4", snapFile(based()))
		if n >= 10 {
			isHard(t, s, based())
			names(t, d, "snap.04", "snap.4", "wal.1")
		}
		// the wal's Sync comes ahead of the first removal, and nothing else is synced
		d.Crash()
		b, _ := d.Read("wal.1")
		if (len(b) > 0) != (n >= 3) {
			t.Fatalf("%d: %d bytes are kept", n, len(b))
		}
		holds(t, d, "snap.4", nil)
	}
}

// TestOpenAsTheWal answers its errors, with all that is wrong beside them left as it is.
func TestOpenAsTheWal(t *testing.T) {
	for _, lay := range []func(d *disk.Disk){
		func(d *disk.Disk) { d.Append("wal.1", append(walFile(based()), 0)) },
		func(d *disk.Disk) { d.Append("wal.1", []byte("torn")) },
		func(d *disk.Disk) { d.Append("wal.1", walFile(based())) },
		func(d *disk.Disk) { d.Append("wal.1", walFile(turned(baseless))) },
	} {
		for _, form := range []bool{false, true} {
			d := disk.New()
			lay(d)
			d.Append("snap.tmp", []byte("x"))
			d.Append("snap.9", []byte("x"))
			if form {
				d.Append("snap.4", []byte("not in form"))
			}
			was := files(d)
			d.Arm(0)
			if s, e := store.Open(d); s != nil || e != api.ErrDown {
				t.Errorf("%v, %d", s, e)
			}
			unchanged(t, d, was)
		}
	}
}

// TestOpenAgain has nothing left to do but the wal's sync.
func TestOpenAgain(t *testing.T) {
	d := manyFiles()
	d.Sync("snap.4")
	for k := range 3 {
		s, e := store.Open(d)
		if e != api.OK {
			t.Fatal(e)
		}
		isHard(t, s, based())
		if e := d.Sync("wal.1"); k > 0 && e != api.ErrDown {
			t.Fatalf("an Open had a change left: %d", e)
		}
		d.Crash()
		d.Arm(1)
	}
}

// TestOpenOfDrawn has files drawn, a number of changes and a crash, and goes on till an Open is through, or there is no right snapshot.
func TestOpenOfDrawn(t *testing.T) {
	draw := rand.New(rand.NewSource(192))
	seen := map[api.Errno]int{}
	for range 6000 {
		p := both()
		for range draw.Intn(8) {
			name, b := drawnFile(draw)
			p.lay(name, b)
			if draw.Intn(2) == 0 {
				p.d.Sync(name)
				p.twin.Sync(name)
			}
		}
		for {
			p.arm(draw.Intn(7))
			e := p.open(t)
			if seen[e]++; e != api.ErrDown {
				break
			}
			p.crash(drawnPicks(draw)...)
			p.alikeFiles(t)
		}
		p.crash(drawnPicks(draw)...)
		p.alike(t)
	}
	if seen[api.OK] < 2000 || seen[api.ErrDown] < 2000 || seen[api.ErrForm] < 500 || len(seen) != 3 {
		t.Errorf("%v", seen)
	}
}

// drawnFile is a segment or a snapshot file, or what is near to one.
func drawnFile(draw *rand.Rand) (string, []byte) {
	h := turned(base(draw.Intn(3)), logged())
	if h.Base == 0 {
		baseless(&h)
	}
	if draw.Intn(2) == 0 {
		b := walFile(h)
		if draw.Intn(4) == 0 {
			b = b[:draw.Intn(len(b)+1)]
		}
		return []string{"wal.0", "wal.1", "wal.2", "wal.x"}[draw.Intn(4)], b
	}
	b := snapFile(h)
	switch draw.Intn(9) {
	case 0:
		b = b[:draw.Intn(len(b)+1)]
	case 1:
		b = append(b, byte(draw.Intn(2)))
	case 2:
		b[draw.Intn(len(b))] ^= 1 << draw.Intn(8)
	}
	if draw.Intn(4) > 0 {
		return snapName(h.Base), b
	}
	return []string{"snap.tmp", "snap.1", "snap.2", "snap.10", "snap.01", "z"}[draw.Intn(6)], b
}
