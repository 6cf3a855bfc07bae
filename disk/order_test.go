package disk_test

import (
	"slices"
	"testing"

	"impost/api"
	"impost/disk"
)

// P16.2: which refusal comes first, and that a refused change changes nothing

// laid is a disk with files of which some bytes are kept and some aren't; it is full, if that is asked.
func laid(t *testing.T, full bool) *disk.Disk {
	t.Helper()
	d := disk.New()
	fine(t, d, app("a", 1, 2), syn("a"), app("a", 3, 4, 5), app("b", 6), syn("b"), app("c", 7, 8), app("e"))
	if full {
		fine(t, d, app("big", make([]byte, room-d.Total())...))
	}
	return d
}

// picture is the files of a disk.
func picture(t *testing.T, d *disk.Disk) (names []string, bytes []string) {
	t.Helper()
	for _, name := range d.Names() {
		p, _ := d.Read(name)
		names, bytes = append(names, name), append(bytes, string(p))
	}
	return names, bytes
}

// same fails, if two disks don't look alike, or don't behind a crash, which shows what was kept. Both of them crash.
func same(t *testing.T, what any, d, twin *disk.Disk) {
	t.Helper()
	for range 2 {
		names, all := picture(t, d)
		names2, all2 := picture(t, twin)
		if !slices.Equal(names, names2) || !slices.Equal(all, all2) {
			t.Fatalf("%v: files are other ones behind it", what)
		}
		if d.Total() != twin.Total() {
			t.Fatalf("%v: Total %d, not %d", what, d.Total(), twin.Total())
		}
		d.Crash()
		twin.Crash()
	}
}

// faulty is a change of that kind with these faults, on the disk that laid makes. There are several of some.
func faulty(kind string, path, none, arg bool) []change {
	name, to := "a", "b"
	if none {
		name = "q"
	}
	if path {
		to = "a b"
	}
	switch kind {
	case "append":
		if path {
			return []change{app("", 1), app("a b", 1), app("\x7f", 1)}
		}
		return []change{app("a", 1), app("new", 1), app("b", make([]byte, 100)...)}
	case "cut":
		if arg {
			return []change{cut(name, -1), cut(name, 6), cut(name, least), cut(name, most)}
		}
		return []change{cut(name, 0), cut(name, 1), cut(name, 5)}
	case "rename":
		if !path {
			return []change{ren(name, "b"), ren(name, "new"), ren(name, name)}
		}
	}
	return []change{{kind: kind, name: name, to: to}}
}

// faults are those that a change of that kind can have, in the chapter's order.
func faults(kind string) []api.Errno {
	switch kind {
	case "append":
		return []api.Errno{api.ErrPath, api.ErrFull}
	case "cut":
		return []api.Errno{api.ErrNone, api.ErrArg}
	case "rename":
		return []api.Errno{api.ErrPath, api.ErrNone}
	}
	return []api.Errno{api.ErrNone}
}

var kinds = []string{"append", "sync", "cut", "rename", "remove"}

// TestTheFirstRefusalCounts has each set of faults of each change, with power and without, with changes left and without.
func TestTheFirstRefusalCounts(t *testing.T) {
	for _, kind := range kinds {
		own := faults(kind)
		for set := range 1 << (len(own) + 2) {
			var has []api.Errno
			for at, e := range own {
				if set>>at&1 == 1 {
					has = append(has, e)
				}
			}
			off, none := set>>len(own)&1 == 1, set>>(len(own)+1)&1 == 1
			for _, c := range faulty(kind, slices.Contains(has, api.ErrPath), slices.Contains(has, api.ErrNone), slices.Contains(has, api.ErrArg)) {
				refuse(t, c, has, off, none)
			}
		}
	}
}

// refuse does c, which has these faults of its own, and looks at what comes of it.
func refuse(t *testing.T, c change, has []api.Errno, off, none bool) {
	t.Helper()
	full := slices.Contains(has, api.ErrFull)
	d, twin := laid(t, full), laid(t, full)
	if off {
		d.Arm(0)
		d.Remove("a")
		d.Arm(-1)
	}
	if none {
		d.Arm(0)
	}
	want := api.OK
	switch {
	case off:
		want = api.ErrDown
	case len(has) > 0:
		want = has[0]
	case none:
		want = api.ErrDown
	}
	if e := c.on(d); e != want {
		t.Errorf("%s %q %q %d, faults %v, off %v, none left %v: %d, not %d", c.kind, c.name, c.to, c.n, has, off, none, e, want)
	}
	if got := d.Off(); got != (want == api.ErrDown) {
		t.Errorf("%s %q %q %d, faults %v, off %v, none left %v: Off %v", c.kind, c.name, c.to, c.n, has, off, none, got)
	}
	if want != api.OK {
		same(t, c, d, twin)
	}
}

// refusals are changes that the disk which laid makes refuses, each with why.
func refusals() map[api.Errno][]change {
	return map[api.Errno][]change{
		api.ErrPath: {app(""), app("a b", 1), app("\x7f"), ren("a", ""), ren("a", "a b"), ren("q", "\u00e9")},
		api.ErrNone: {syn("q"), syn(""), cut("q", 0), cut("", -1), ren("q", "a"), ren("q", "q"), ren("a b", "a"), rem("q"), rem("a b")},
		api.ErrArg:  {cut("a", -1), cut("a", 6), cut("b", 2), cut("e", 1), cut("e", -1), cut("a", least), cut("a", most)},
		api.ErrFull: {app("a", make([]byte, room)...), app("new", make([]byte, room)...)},
	}
}

func TestRefusedChangesChangeNothing(t *testing.T) {
	for why, l := range refusals() {
		for _, c := range l {
			d := laid(t, false)
			for range 3 {
				if e := c.on(d); e != why {
					t.Errorf("%s %q %q %d: %d, not %d", c.kind, c.name, c.to, c.n, e, why)
				}
			}
			if d.Off() {
				t.Errorf("%s %q %q %d: no power", c.kind, c.name, c.to, c.n)
			}
			same(t, c, d, laid(t, false))
		}
	}
}

// TestRefusedChangesCountNothing has as many changes left as there were, whatever is refused between.
func TestRefusedChangesCountNothing(t *testing.T) {
	for why, l := range refusals() {
		for _, c := range l {
			for n := range 4 {
				d := laid(t, false)
				d.Arm(n)
				for range n {
					if e := c.on(d); e != why {
						t.Errorf("%s %q %q %d: %d, not %d", c.kind, c.name, c.to, c.n, e, why)
					}
					fine(t, d, syn("e"))
				}
				if e := c.on(d); e != why || d.Off() {
					t.Errorf("%s %q %q %d with none left: %d, not %d; Off %v", c.kind, c.name, c.to, c.n, e, why, d.Off())
				}
				if e := d.Sync("e"); e != api.ErrDown || !d.Off() {
					t.Errorf("behind %d changes: %d, Off %v", n, e, d.Off())
				}
			}
		}
	}
}
