package disk_test

import (
	"bytes"
	"math/rand"
	"slices"
	"strings"
	"testing"

	"impost/api"
	"impost/disk"
)

// has fails, if the file isn't just these bytes.
func has(t *testing.T, d *disk.Disk, name string, want ...byte) {
	t.Helper()
	if got, ok := d.Read(name); !ok || !bytes.Equal(got, want) {
		t.Errorf("%q: % x, %v, not % x", name, got, ok, want)
	}
}

// hasNot fails, if there is a file of that name.
func hasNot(t *testing.T, d *disk.Disk, name string) {
	t.Helper()
	if got, ok := d.Read(name); got != nil || ok {
		t.Errorf("%q: % x, %v", name, got, ok)
	}
}

// fine does changes none of which may be refused.
func fine(t *testing.T, d *disk.Disk, l ...change) {
	t.Helper()
	for _, c := range l {
		if e := c.on(d); e != api.OK {
			t.Fatalf("%s %q %q %d: %d", c.kind, c.name, c.to, c.n, e)
		}
	}
}

// P16.1

func TestNew(t *testing.T) {
	d := disk.New()
	if l := d.Names(); len(l) != 0 {
		t.Errorf("Names: %q", l)
	}
	if d.Total() != 0 || d.Off() {
		t.Errorf("Total %d, Off %v", d.Total(), d.Off())
	}
	for _, name := range append(badNames(), absent...) {
		hasNot(t, d, name)
	}
	for range 300 {
		fine(t, d, app("a", 1), syn("a"), ren("a", "b"), cut("b", 0), rem("b"))
	}
	if d.Off() {
		t.Error("it was armed")
	}
}

func TestNewIsNewEachTime(t *testing.T) {
	d, other := disk.New(), disk.New()
	fine(t, d, app("a", 1, 2), syn("a"))
	d.Arm(0)
	app("b", 1).on(d)
	hasNot(t, other, "a")
	if other.Off() || other.Total() != 0 || len(other.Names()) != 0 {
		t.Error("what is done to a disk is seen on another one")
	}
	fine(t, other, app("a", 3))
	has(t, d, "a", 1, 2)
	has(t, other, "a", 3)
}

// P16.2: names

func TestNamesByTheirLength(t *testing.T) {
	for n := range 60 {
		name, want := strings.Repeat("x", n), api.OK
		if n == 0 || n > longest {
			want = api.ErrPath
		}
		d := disk.New()
		if e := d.Append(name, []byte{1}); e != want {
			t.Errorf("Append to a name of %d bytes: %d, not %d", n, e, want)
		}
		if _, ok := d.Read(name); ok != (want == api.OK) {
			t.Errorf("Read of a name of %d bytes: %v", n, ok)
		}
		d = disk.New()
		fine(t, d, app("a", 7))
		if e := d.Rename("a", name); e != want {
			t.Errorf("Rename to a name of %d bytes: %d, not %d", n, e, want)
		}
		if _, ok := d.Read("a"); ok != (want != api.OK) {
			t.Errorf("behind a Rename to a name of %d bytes: %v", n, ok)
		}
	}
}

// TestNamesByTheirBytes has each byte alone, at the beginning, in the midst and at the end of a name.
func TestNamesByTheirBytes(t *testing.T) {
	for c := range 256 {
		b := string([]byte{byte(c)})
		for _, name := range []string{b, b + "xy", "x" + b + "y", "xy" + b, strings.Repeat("x", longest-1) + b, b + strings.Repeat("x", longest-1)} {
			want := api.ErrPath
			if c >= 33 && c <= 126 {
				want = api.OK
			}
			d := disk.New()
			if e := d.Append(name, nil); e != want {
				t.Errorf("Append to %q: %d, not %d", name, e, want)
			}
			if got := d.Names(); slices.Equal(got, []string{name}) != (want == api.OK) {
				t.Errorf("behind an Append to %q: %q", name, got)
			}
			d = disk.New()
			fine(t, d, app("from"))
			if e := d.Rename("from", name); e != want {
				t.Errorf("Rename to %q: %d, not %d", name, e, want)
			}
		}
	}
}

// TestNamesThatMayNotBe asks each change of them; but for Append, and Rename's second one, there is just no such file.
func TestNamesThatMayNotBe(t *testing.T) {
	for _, bad := range badNames() {
		p := both()
		p.does(t, app("a", 1, 2))
		for i, r := range []struct {
			c    change
			want api.Errno
		}{
			{app(bad), api.ErrPath}, {app(bad, 1), api.ErrPath}, {ren("a", bad), api.ErrPath}, {ren("q", bad), api.ErrPath}, {ren(bad, bad), api.ErrPath},
			{syn(bad), api.ErrNone}, {cut(bad, 0), api.ErrNone}, {cut(bad, -1), api.ErrNone}, {ren(bad, "a"), api.ErrNone}, {ren(bad, "b"), api.ErrNone}, {rem(bad), api.ErrNone},
		} {
			if e := r.c.on(p.d); e != r.want {
				t.Errorf("%q, %d: %d, not %d", bad, i, e, r.want)
			}
		}
		hasNot(t, p.d, bad)
		agree(t, bad, p.d, p.m)
	}
}

// P16.2: the changes

func TestAppend(t *testing.T) {
	d := disk.New()
	fine(t, d, app("a", 1, 2, 3), app("b", 9), app("a", 4), app("a", 5, 6))
	has(t, d, "a", 1, 2, 3, 4, 5, 6)
	has(t, d, "b", 9)
	d.Crash()
	has(t, d, "a")
	has(t, d, "b")
}

func TestAppendOfNoBytes(t *testing.T) {
	for _, none := range [][]byte{nil, {}, []byte("spare")[:0]} {
		d := disk.New()
		fine(t, d, app("a", none...))
		has(t, d, "a")
		if !slices.Equal(d.Names(), []string{"a"}) || d.Total() != 0 {
			t.Errorf("%q, %d", d.Names(), d.Total())
		}
		fine(t, d, app("a", 1, 2), syn("a"), app("a", 3), app("a", none...))
		has(t, d, "a", 1, 2, 3)
		d.Crash(1)
		has(t, d, "a", 1, 2, 3)
		fine(t, d, app("e", none...))
		d.Crash()
		has(t, d, "e")
	}
}

// TestAppendKeepsNothing adds to a file that is kept in whole: what comes behind it isn't.
func TestAppendKeepsNothing(t *testing.T) {
	for kept := range 5 {
		for more := range 5 {
			p := both()
			p.does(t, app("a", []byte("kept")[:kept]...))
			p.does(t, syn("a"))
			p.does(t, app("a", []byte("more")[:more]...))
			p.crash()
			has(t, p.d, "a", []byte("kept")[:kept]...)
			agree(t, more, p.d, p.m)
		}
	}
}

func TestSync(t *testing.T) {
	d := disk.New()
	fine(t, d, app("a", 1), app("b", 2), syn("a"), app("a", 3), app("c"), syn("c"))
	d.Crash()
	has(t, d, "a", 1)
	has(t, d, "b")
	has(t, d, "c")
	fine(t, d, app("a", 4), syn("a"), syn("a"), app("b", 5, 6), syn("b"))
	d.Crash()
	has(t, d, "a", 1, 4)
	has(t, d, "b", 5, 6)
}

// TestCut has each size, each number of bytes that are kept, each cut and what is appended behind it.
func TestCut(t *testing.T) {
	text := []byte("abcdef")
	for size := range len(text) + 1 {
		for kept := range size + 1 {
			for _, n := range []int{least, least + 1, -size, -2, -1, 0, 1, 2, 3, 4, 5, 6, 7, 8, 256, 1 << 32, most - 1, most} {
				d := disk.New()
				fine(t, d, app("a", text[:kept]...), syn("a"), app("a", text[kept:size]...), app("b", 7), syn("b"))
				e := d.Cut("a", n)
				if n < 0 || n > size {
					if e != api.ErrArg {
						t.Errorf("Cut of %d to %d: %d", size, n, e)
					}
					has(t, d, "a", text[:size]...)
					d.Crash()
					has(t, d, "a", text[:kept]...)
					continue
				}
				if e != api.OK {
					t.Errorf("Cut of %d to %d: %d", size, n, e)
				}
				has(t, d, "a", text[:n]...)
				has(t, d, "b", 7)
				fine(t, d, app("a", 'X', 'Y'))
				has(t, d, "a", append(slices.Clone(text[:n]), 'X', 'Y')...)
				d.Crash()
				has(t, d, "a", text[:min(n, kept)]...)
				has(t, d, "b", 7)
			}
		}
	}
}

func TestRename(t *testing.T) {
	for _, to := range []string{"c", "!", "~", "aa", "A", strings.Repeat("n", longest)} {
		d := disk.New()
		fine(t, d, app("a", 1, 2), syn("a"), app("a", 3), app("b", 4), syn("b"), ren("a", to))
		hasNot(t, d, "a")
		has(t, d, to, 1, 2, 3)
		has(t, d, "b", 4)
		d.Crash()
		has(t, d, to, 1, 2)
		has(t, d, "b", 4)
	}
}

// TestRenameToItsOwn leaves all as it is, what is kept too.
func TestRenameToItsOwn(t *testing.T) {
	d := disk.New()
	fine(t, d, app("a", 1, 2), syn("a"), app("a", 3), app("b", 4), ren("a", "a"))
	has(t, d, "a", 1, 2, 3)
	has(t, d, "b", 4)
	if !slices.Equal(d.Names(), []string{"a", "b"}) || d.Total() != 4 {
		t.Errorf("%q, %d", d.Names(), d.Total())
	}
	d.Crash()
	has(t, d, "a", 1, 2)
	has(t, d, "b")
}

// TestRenameOntoAnother takes that one's name, and nothing else of it: not its bytes, nor how many of them were kept.
func TestRenameOntoAnother(t *testing.T) {
	for kept := range 4 {
		for was := range 4 {
			for _, names := range [][2]string{{"a", "b"}, {"b", "a"}} {
				d, from, to := disk.New(), names[0], names[1]
				fine(t, d, app(from, []byte("new")[:kept]...), syn(from), app(from, []byte("new")[kept:]...))
				fine(t, d, app(to, []byte("old")[:was]...), syn(to), app(to, []byte("old")[was:]...), app("c", 1), syn("c"))
				fine(t, d, ren(from, to))
				hasNot(t, d, from)
				has(t, d, to, []byte("new")...)
				if !slices.Equal(d.Names(), []string{to, "c"}) || d.Total() != 4 {
					t.Errorf("%q, %d", d.Names(), d.Total())
				}
				d.Crash()
				has(t, d, to, []byte("new")[:kept]...)
				has(t, d, "c", 1)
			}
		}
	}
}

func TestRemove(t *testing.T) {
	for _, name := range []string{"a", "b", "c"} {
		d := disk.New()
		fine(t, d, app("a", 1), syn("a"), app("b", 2), syn("b"), app("c", 3), syn("c"), rem(name))
		hasNot(t, d, name)
		if e := d.Remove(name); e != api.ErrNone {
			t.Errorf("Remove again: %d", e)
		}
		if len(d.Names()) != 2 || slices.Contains(d.Names(), name) || d.Total() != 2 {
			t.Errorf("%q, %d", d.Names(), d.Total())
		}
		d.Crash(99, 99, 99)
		hasNot(t, d, name)
		fine(t, d, app(name, 9))
		has(t, d, name, 9)
		d.Crash()
		has(t, d, name)
	}
}

// P16.2: MaxDisk

func TestAsManyBytesAsThereIsRoomFor(t *testing.T) {
	for i, l := range [][]int{{room}, {room - 1, 1}, {1, room - 1}, {room / 2, room / 2}, {0, room}, {room / 4, room / 4, room / 4, room/4 - 1, 1}} {
		d := disk.New()
		for at, n := range l {
			name := string(rune('a' + at))
			if left := room - d.Total(); left < room {
				for _, more := range []int{left + 1, left + 2, room, room + 1} {
					if e := d.Append(name, make([]byte, more)); e != api.ErrFull {
						t.Errorf("%d, %d: %d bytes: %d", i, at, more, e)
					}
				}
				hasNot(t, d, name)
			}
			fine(t, d, app(name, make([]byte, n)...))
		}
		if d.Total() != room {
			t.Errorf("%d: Total %d", i, d.Total())
		}
		for _, name := range []string{"a", "new"} {
			for _, more := range []int{1, 2, room} {
				if e := d.Append(name, make([]byte, more)); e != api.ErrFull {
					t.Errorf("%d: %d bytes more in %q: %d", i, more, name, e)
				}
			}
		}
		hasNot(t, d, "new")
		fine(t, d, app("a"), app("new"), app("new", []byte{}...))
		has(t, d, "new")
	}
	d := disk.New()
	if e := d.Append("a", make([]byte, room+1)); e != api.ErrFull || len(d.Names()) != 0 {
		t.Errorf("one byte too many: %d, %q", e, d.Names())
	}
}

// TestRoomComesBack has a disk that is full, and makes room for five bytes in each way.
func TestRoomComesBack(t *testing.T) {
	for why, free5 := range map[string]func(d *disk.Disk){
		"cut":    func(d *disk.Disk) { d.Cut("a", 5) },
		"remove": func(d *disk.Disk) { d.Remove("b") },
		"rename": func(d *disk.Disk) { d.Rename("a", "b") },
		"crash":  func(d *disk.Disk) { d.Crash(most, 0) },
	} {
		d := disk.New()
		fine(t, d, app("a", 1, 2, 3, 4, 5, 6, 7, 8, 9, 10), syn("a"), app("b", make([]byte, 5)...), app("c", make([]byte, room-15)...), syn("c"))
		free5(d)
		if got := room - d.Total(); got != 5 {
			t.Errorf("%s: room for %d", why, got)
		}
		if e := d.Append("d", make([]byte, 6)); e != api.ErrFull {
			t.Errorf("%s: %d", why, e)
		}
		fine(t, d, app("d", make([]byte, 5)...))
		if e := d.Append("c", []byte{1}); e != api.ErrFull {
			t.Errorf("%s: %d behind", why, e)
		}
	}
}

// TestRoomOfDrawn has few great files, of which the sizes alone are remembered.
func TestRoomOfDrawn(t *testing.T) {
	draw := rand.New(rand.NewSource(161))
	seen := map[api.Errno]int{}
	for range 20 {
		d, sizes := disk.New(), map[string]int{}
		for range 40 {
			name, total := string(rune('a'+draw.Intn(4))), 0
			for _, n := range sizes {
				total += n
			}
			if d.Total() != total {
				t.Fatalf("Total %d, not %d", d.Total(), total)
			}
			switch draw.Intn(5) {
			case 0:
				if n := draw.Intn(room/2 + 1); d.Cut(name, n) == api.OK {
					sizes[name] = n
				}
			case 1:
				d.Remove(name)
				delete(sizes, name)
			default:
				more := []int{room - total, room - total + 1, draw.Intn(room / 2)}[draw.Intn(3)]
				e := d.Append(name, make([]byte, more))
				if want := when(total+more > room, api.ErrFull); e != want {
					t.Fatalf("%d bytes beside %d: %d, not %d", more, total, e, want)
				}
				if seen[e]++; e == api.OK {
					sizes[name] += more
				}
			}
		}
	}
	if seen[api.OK] < 100 || seen[api.ErrFull] < 100 {
		t.Errorf("drawn: %v", seen)
	}
}

// P16.3

func TestNamesRise(t *testing.T) {
	want := []string{"!", "!!", "+", "-", "0", "10", "9", "A", "AB", "B", "Z", "[", "a", "aB", "aa", "a~", "b", "snap.1", "snap.10", "snap.2", "snap.tmp", "wal.1", "z", strings.Repeat("z", longest), "~", "~~"}
	draw := rand.New(rand.NewSource(162))
	for range 50 {
		d := disk.New()
		for _, at := range draw.Perm(len(want)) {
			fine(t, d, app(want[at], byte(at)))
		}
		if got := d.Names(); !slices.Equal(got, want) {
			t.Fatalf("%q", got)
		}
		for at, name := range want {
			has(t, d, name, byte(at))
		}
		if d.Total() != len(want) {
			t.Fatalf("Total %d", d.Total())
		}
	}
}

func TestManyFiles(t *testing.T) {
	draw := rand.New(rand.NewSource(163))
	p, names := both(), []string{}
	for range 700 {
		name := make([]byte, 1+draw.Intn(longest))
		for i := range name {
			name[i] = byte(33 + draw.Intn(94))
		}
		names = append(names, string(name))
		p.does(t, app(string(name), name...))
	}
	agree(t, "made", p.d, p.m)
	for i, name := range names {
		switch i % 5 {
		case 0:
			p.does(t, rem(name))
		case 1:
			p.does(t, ren(name, names[draw.Intn(len(names))]))
		case 2:
			p.does(t, syn(name))
		}
	}
	agree(t, "changed", p.d, p.m)
	picks := make([]int, 400)
	for i := range picks {
		picks[i] = draw.Intn(100)
	}
	p.crash(picks...)
	agree(t, "behind a crash", p.d, p.m)
}
