package disk_test

import (
	"bytes"
	"math"
	"math/rand"
	"slices"
	"sort"
	"strings"
	"testing"

	"impost/api"
	"impost/disk"
)

const (
	// most and least are the edges of an int.
	most  = math.MaxInt
	least = math.MinInt
	// longest and room are the chapter's limits, written out so that a limit that slips is seen.
	longest = 24
	room    = 4194304
)

// cell is one byte of a file, and whether a crash leaves it.
type cell struct {
	b    byte
	kept bool
}

// model is a disk as the chapter tells it, byte by byte.
type model struct {
	files map[string][]cell
	dark  bool
	left  *int // nil: nothing is armed
}

func fresh() *model { return &model{files: map[string][]cell{}} }

func (m *model) size() int {
	n := 0
	for _, f := range m.files {
		n += len(f)
	}
	return n
}

// may tells whether name may be a file's.
func may(name string) bool {
	bad := func(b byte) bool { return b <= ' ' || b > '~' }
	return name != "" && len(name) <= longest && !slices.ContainsFunc([]byte(name), bad)
}

// begin is what a change is refused for when the chapter's own reasons, in their order, are these.
func (m *model) begin(why ...api.Errno) api.Errno {
	if m.dark {
		return api.ErrDown
	}
	for _, e := range why {
		if e != api.OK {
			return e
		}
	}
	if m.left == nil {
		return api.OK
	}
	if *m.left == 0 {
		m.dark = true
		return api.ErrDown
	}
	*m.left--
	return api.OK
}

func when(is bool, e api.Errno) api.Errno {
	if is {
		return e
	}
	return api.OK
}

func (m *model) missing(name string) api.Errno {
	_, there := m.files[name]
	return when(!there, api.ErrNone)
}

// change is one of a disk's.
type change struct {
	kind     string
	name, to string
	p        []byte
	n        int
}

// on does c on a disk.
func (c change) on(d *disk.Disk) api.Errno {
	switch c.kind {
	case "append":
		return d.Append(c.name, c.p)
	case "sync":
		return d.Sync(c.name)
	case "cut":
		return d.Cut(c.name, c.n)
	case "rename":
		return d.Rename(c.name, c.to)
	case "remove":
		return d.Remove(c.name)
	}
	panic(c.kind)
}

// onModel does c on a model.
func (c change) onModel(m *model) api.Errno {
	f := m.files[c.name]
	e := api.OK
	switch c.kind {
	case "append":
		if e = m.begin(when(!may(c.name), api.ErrPath), when(m.size()+len(c.p) > room, api.ErrFull)); e == api.OK {
			f = slices.Clone(f)
			for _, b := range c.p {
				f = append(f, cell{b: b})
			}
			m.files[c.name] = f
		}
	case "sync":
		if e = m.begin(m.missing(c.name)); e == api.OK {
			m.files[c.name] = synced(f)
		}
	case "cut":
		if e = m.begin(m.missing(c.name), when(c.n < 0 || c.n > len(f), api.ErrArg)); e == api.OK {
			m.files[c.name] = slices.Clone(f[:c.n])
		}
	case "rename":
		if e = m.begin(when(!may(c.to), api.ErrPath), m.missing(c.name)); e == api.OK {
			delete(m.files, c.name)
			m.files[c.to] = f
		}
	case "remove":
		if e = m.begin(m.missing(c.name)); e == api.OK {
			delete(m.files, c.name)
		}
	}
	return e
}

func synced(f []cell) []cell {
	out := slices.Clone(f)
	for i := range out {
		out[i].kept = true
	}
	return out
}

func (m *model) arm(n int) {
	m.left = nil
	if n >= 0 {
		m.left = &n
	}
}

func (m *model) names() []string {
	var l []string
	for name := range m.files {
		l = append(l, name)
	}
	sort.Strings(l)
	return l
}

func (m *model) crash(picks ...int) {
	m.dark, m.left = false, nil
	for at, name := range m.names() {
		pick := 0
		if at < len(picks) && picks[at] > 0 {
			pick = picks[at]
		}
		m.files[name] = torn(m.files[name], pick)
	}
}

// torn is what a crash leaves of f.
func torn(f []cell, pick int) []cell {
	var out []cell
	loose := 0
	for _, c := range f {
		if c.kept {
			out = append(out, c)
		} else {
			loose++
		}
	}
	rest, odd := divided(pick, loose+1)
	out = append(out, f[len(out):len(out)+rest]...)
	if rest > 0 && odd {
		out[len(out)-1].b = 255 - out[len(out)-1].b
	}
	return synced(out)
}

// divided is a division by hand, bit by bit: the rest, and whether the quotient is odd.
func divided(n, by int) (int, bool) {
	rest, odd := uint64(0), false
	for bit := 62; bit >= 0; bit-- {
		rest = rest<<1 | uint64(n)>>bit&1
		odd = rest >= uint64(by)
		if odd {
			rest -= uint64(by)
		}
	}
	return int(rest), odd
}

func (m *model) bytes(name string) []byte {
	var p []byte
	for _, c := range m.files[name] {
		p = append(p, c.b)
	}
	return p
}

// agree fails, if what can be seen of d is other than what m has. It looks twice, as looking must change nothing.
func agree(t *testing.T, what any, d *disk.Disk, m *model) {
	t.Helper()
	for range 2 {
		names := m.names()
		if got := d.Names(); !slices.Equal(got, names) {
			t.Fatalf("%v: Names %q, not %q", what, got, names)
		}
		if got := d.Total(); got != m.size() {
			t.Fatalf("%v: Total %d, not %d", what, got, m.size())
		}
		if got := d.Off(); got != m.dark {
			t.Fatalf("%v: Off %v", what, got)
		}
		for _, name := range names {
			if got, ok := d.Read(name); !ok || !bytes.Equal(got, m.bytes(name)) {
				t.Fatalf("%v: Read of %q: % x, %v, not % x", what, name, got, ok, m.bytes(name))
			}
		}
		for _, name := range absent {
			if got, ok := d.Read(name); !slices.Contains(names, name) && (got != nil || ok) {
				t.Fatalf("%v: Read of %q: % x, %v", what, name, got, ok)
			}
		}
	}
}

// absent are names that few tests give a file.
var absent = []string{"absent", "a.", "A", "aaa", "~~", "!", "", "a b"}

// badNames are texts that no file may have as its name.
func badNames() []string {
	l := []string{"", " ", "\x7f", "\x00", "\n", "\x1f", "\x80", "\xff", "\xa1", "\xc3", "\u00e9", "\u0130", "\u2028", "\U0001f600", "a ", " a", "a b", "a\x00", "\x00a", "a\x7f", "a\x7fb", "a\u00e9", "\u00e9a", "a\xff"}
	for _, n := range []int{longest + 1, longest + 2, 2 * longest, 255, 256, 256 + longest, 1 << 16, 1<<16 + 1} {
		l = append(l, strings.Repeat("n", n))
	}
	l = append(l, strings.Repeat(" ", longest+1), strings.Repeat("n", longest-1)+" ", strings.Repeat("n", longest-1)+"\x7f", strings.Repeat("\u00e9", longest/2))
	return l
}

// pair is a disk and its model, to which the same things are done.
type pair struct {
	d *disk.Disk
	m *model
}

func both() pair { return pair{disk.New(), fresh()} }

// does does c to both, which must answer alike.
func (p pair) does(t *testing.T, c change) api.Errno {
	t.Helper()
	got, want := c.on(p.d), c.onModel(p.m)
	if got != want {
		t.Fatalf("%s %q %q %d, %d bytes: %d, not %d", c.kind, c.name, c.to, c.n, len(c.p), got, want)
	}
	return got
}

func (p pair) arm(n int) {
	p.d.Arm(n)
	p.m.arm(n)
}

func (p pair) crash(picks ...int) {
	p.d.Crash(picks...)
	p.m.crash(picks...)
}

// app, syn, cut, ren and rem make changes.
func app(name string, p ...byte) change { return change{kind: "append", name: name, p: p} }
func syn(name string) change            { return change{kind: "sync", name: name} }
func cut(name string, n int) change     { return change{kind: "cut", name: name, n: n} }
func ren(name, to string) change        { return change{kind: "rename", name: name, to: to} }
func rem(name string) change            { return change{kind: "remove", name: name} }

// drawn is any change of few names, most of them such as may be.
func drawn(draw *rand.Rand) change {
	names := []string{"a", "a", "b", "b", "B", "c", "ab", "wal.1", strings.Repeat("n", longest), "", "a b", strings.Repeat("n", longest+1)}
	name, to := names[draw.Intn(len(names))], names[draw.Intn(len(names))]
	switch draw.Intn(12) {
	case 0, 1, 2, 3, 4:
		p := make([]byte, draw.Intn(6))
		draw.Read(p)
		return app(name, p...)
	case 5, 6, 7:
		return syn(name)
	case 8, 9:
		return cut(name, draw.Intn(16)-3)
	case 10:
		return ren(name, to)
	}
	return rem(name)
}

// drawnPicks are some, near to 0 or anywhere.
func drawnPicks(draw *rand.Rand) []int {
	picks := make([]int, draw.Intn(9))
	for i := range picks {
		switch draw.Intn(6) {
		case 0:
			picks[i] = int(draw.Uint64())
		case 1:
			picks[i] = -draw.Intn(20)
		default:
			picks[i] = draw.Intn(40)
		}
	}
	return picks
}
