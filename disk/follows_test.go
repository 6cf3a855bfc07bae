package disk_test

import (
	"math/rand"
	"slices"
	"testing"

	"impost/api"
	"impost/disk"
)

// P16.5, the chapter's table, and drawn runs held against the model

func TestRuns(t *testing.T) {
	for _, r := range []struct {
		pick int
		want []byte
	}{{1, []byte{1, 2, 3, 4}}, {4, []byte{1, 2, 3, 0xfb}}, {5, []byte{1, 2, 3, 4, 0xfa}}} {
		d := disk.New()
		fine(t, d, app("a", 1, 2, 3), syn("a"), app("a", 4, 5))
		d.Crash(r.pick)
		has(t, d, "a", r.want...)
	}
	d := disk.New()
	d.Arm(1)
	fine(t, d, app("b", 1))
	if e := d.Sync("b"); e != api.ErrDown {
		t.Errorf("Sync: %d", e)
	}
	if !d.Off() {
		t.Error("Off")
	}
	if e := d.Append("b", []byte{2}); e != api.ErrDown {
		t.Errorf("Append: %d", e)
	}
	d = disk.New()
	fine(t, d, app("a", 1, 2, 3))
	if e := d.Rename("a", "a b"); e != api.ErrPath {
		t.Errorf("Rename: %d", e)
	}
	if e := d.Cut("a", 99); e != api.ErrArg {
		t.Errorf("Cut: %d", e)
	}
	if e := d.Sync("q"); e != api.ErrNone {
		t.Errorf("Sync: %d", e)
	}
}

// steps are changes of two files, few enough to have each run of four of them.
func steps() []change {
	return []change{app("a", 1, 2), app("a", 3), app("b", 4, 5), syn("a"), syn("b"), cut("a", 1), cut("b", 1), cut("a", 0), ren("a", "b"), ren("b", "a"), ren("a", "a"), rem("a"), rem("b")}
}

// TestEachRunOfFour does each four steps, and crashes behind them in each of some ways.
func TestEachRunOfFour(t *testing.T) {
	all := steps()
	for run := range len(all) * len(all) * len(all) * len(all) {
		for _, picks := range [][]int{nil, {1, 2}, {2, 1}, {4, 5}, {most, most}} {
			p := both()
			for n, i := run, 0; i < 4; i++ {
				p.does(t, all[n%len(all)])
				n /= len(all)
			}
			agree(t, run, p.d, p.m)
			p.crash(picks...)
			agree(t, run, p.d, p.m)
		}
	}
}

// TestDrawnRuns has changes, arms and crashes in any order, and looks at all behind each.
func TestDrawnRuns(t *testing.T) {
	draw := rand.New(rand.NewSource(165))
	seen := map[api.Errno]int{}
	for round := range 1000 {
		p := both()
		for step := range 120 {
			switch draw.Intn(20) {
			case 0:
				p.arm(draw.Intn(12) - 2)
			case 1:
				p.crash(drawnPicks(draw)...)
			default:
				seen[p.does(t, drawn(draw))]++
			}
			agree(t, []int{round, step}, p.d, p.m)
		}
	}
	for _, e := range []api.Errno{api.OK, api.ErrDown, api.ErrPath, api.ErrNone, api.ErrArg} {
		if seen[e] < 500 {
			t.Errorf("%d was drawn %d times", e, seen[e])
		}
	}
}

// TestWhatIsSyncedLasts syncs a file, does anything to others, and crashes: it has all its bytes.
func TestWhatIsSyncedLasts(t *testing.T) {
	draw := rand.New(rand.NewSource(166))
	for range 3000 {
		d := disk.New()
		var want []byte
		for range 1 + draw.Intn(4) {
			more := make([]byte, draw.Intn(9))
			draw.Read(more)
			want = append(want, more...)
			fine(t, d, app("kept", more...))
		}
		fine(t, d, syn("kept"))
		if draw.Intn(2) == 0 {
			d.Arm(draw.Intn(30))
		}
		for range draw.Intn(40) {
			drawn(draw).on(d)
		}
		for range 3 {
			d.Crash(drawnPicks(draw)...)
			has(t, d, "kept", want...)
			for range draw.Intn(10) {
				drawn(draw).on(d)
			}
		}
	}
}

// TestWhatIsKeptStays appends behind what is kept, once or more often, and crashes in any way: the kept bytes go ahead of what there is.
func TestWhatIsKeptStays(t *testing.T) {
	draw := rand.New(rand.NewSource(167))
	for range 3000 {
		d := disk.New()
		fine(t, d, app("b", 1, 2, 3), syn("b"))
		kept := []byte{1, 2, 3}
		for range 6 {
			more := make([]byte, draw.Intn(7))
			draw.Read(more)
			fine(t, d, app("b", more...))
			d.Crash(drawnPicks(draw)...)
			got, _ := d.Read("b")
			if len(got) < len(kept) || len(got) > len(kept)+len(more) || !slices.Equal(got[:len(kept)], kept) {
				t.Fatalf("% x and % x became % x", kept, more, got)
			}
			kept = got
		}
	}
}

// TestAnswersHangOnWhatWasGiven does each drawn run on two disks (R4).
func TestAnswersHangOnWhatWasGiven(t *testing.T) {
	for seed := range 50 {
		draw, again := rand.New(rand.NewSource(int64(seed))), rand.New(rand.NewSource(int64(seed)))
		d, other := disk.New(), disk.New()
		for range 200 {
			if c, o := drawn(draw), drawn(again); c.on(d) != o.on(other) {
				t.Fatalf("%v", c)
			}
			if draw.Intn(15)+again.Intn(15) == 0 {
				d.Crash(drawnPicks(draw)...)
				other.Crash(drawnPicks(again)...)
			}
			names, all := picture(t, d)
			names2, all2 := picture(t, other)
			if !slices.Equal(names, names2) || !slices.Equal(all, all2) {
				t.Fatalf("%q, not %q", all, all2)
			}
		}
	}
}
