package store_test

import (
	"fmt"
	"math/rand"
	"slices"
	"strings"
	"testing"

	"impost/api"
	"impost/disk"
	"impost/store"
)

// The table 'Runs'

func TestRuns(t *testing.T) {
	d := disk.New()
	s, e := store.Open(d)
	if e != api.OK {
		t.Fatal(e)
	}
	h := api.Hard{Term: 1, Base: 3, BaseTerm: 1, Members: 7, Snap: "abc"}
	if e := s.Save(h); e != api.OK {
		t.Fatal(e)
	}
	names(t, d, "snap.3", "wal.1")
	h.Base, h.Snap = 5, "de"
	if e := s.Save(h); e != api.OK {
		t.Fatal(e)
	}
	if s, e = store.Open(d); e != api.OK || s.Hard().Snap != "de" {
		t.Fatalf("%d, %s", e, brief(s.Hard()))
	}
	names(t, d, "snap.5", "wal.2")
	if e := s.Save(api.Hard{Term: 1, Members: 7, Snap: "de"}); e != api.ErrArg {
		t.Errorf("Base 0 with a Snap: %d", e)
	}
	d.Remove("snap.5")
	if s, e := store.Open(d); s != nil || e != api.ErrForm {
		t.Errorf("without snap.5: %d", e)
	}
}

// P19.3

// TestSaves has a Base that comes, moves, stays and goes, a Snap that is another one, and the wal's part alone that changes.
func TestSaves(t *testing.T) {
	p := both().opened(t)
	for _, c := range []struct {
		h    api.Hard
		want []string
	}{
		{turned(baseless, logged()), []string{"wal.1"}},
		{turned(baseless), []string{"wal.1"}},
		{turned(baseless, members(3)), []string{"wal.2"}},
		{turned(base(1)), []string{"snap.1", "wal.3"}},
		{turned(base(1), voted(2)), []string{"snap.1", "wal.3"}},
		{turned(base(1), voted(2), fewer(2)), []string{"snap.1", "wal.3"}},
		{turned(base(1), term(9)), []string{"snap.1", "wal.3"}},
		{turned(base(9), term(9)), []string{"snap.9", "wal.4"}},
		{turned(base(10), term(9)), []string{"snap.10", "wal.5"}},
		{turned(base(10), term(9), snap("other")), []string{"snap.10", "wal.5"}},
		{turned(base(10), term(9), snap("more"), plus(en(9, "z"))), []string{"snap.10", "wal.5"}},
		{turned(base(10), term(9), snap("more"), members(1)), []string{"snap.10", "wal.6"}},
		{turned(base(10), term(9), snap("more"), members(1), baseTerm(1)), []string{"snap.10", "wal.7"}},
		{turned(base(10), term(8), snap("more"), members(1), baseTerm(1)), []string{"snap.10", "wal.8"}},
		{turned(base(9), term(8), snap("more"), members(1), baseTerm(1)), []string{"snap.9", "wal.9"}},
		{turned(base(100), term(8), snap("more"), members(1), baseTerm(1)), []string{"snap.100", "wal.10"}},
		{turned(baseless), []string{"wal.11"}},
		{based(), []string{"snap.4", "wal.12"}},
		{turned(base(topIndex-4), snap(strings.Repeat("z", longImage))), []string{"snap.1099511627772", "wal.13"}},
		{turned(base(topIndex), snap("z"), logged()), []string{"snap.1099511627776", "wal.14"}},
		{api.Hard{Vote: -1, Members: 1}, []string{"wal.15"}},
	} {
		p.saved(t, c.h)
		names(t, p.d, c.want...)
		if c.h.Base != 0 {
			holds(t, p.d, snapName(c.h.Base), snapFile(c.h))
		}
		isHard(t, p.s, c.h)
		p.saved(t, c.h)
		// nothing of it needs power to last
		p.crash()
		names(t, p.d, c.want...)
		p.opened(t)
		isHard(t, p.s, c.h)
	}
}

// TestSaveOfEachPart has each set of the four parts of a snapshot be other ones, with the wal's own and without, and files beside that tell what is done: what is laid takes the draft's place, and Base and Snap alone have the others removed.
func TestSaveOfEachPart(t *testing.T) {
	parts := []func(h *api.Hard){base(6), snap("other"), baseTerm(1), members(3)}
	for set := range 1 << len(parts) {
		for _, also := range [][]func(h *api.Hard){nil, {voted(3)}, {logged()}, {term(9), plus(en(9, "z"))}, {term(4), logged()}} {
			for _, draft := range []bool{false, true} {
				h := turned(also...)
				for k, part := range parts {
					if set>>k&1 == 1 {
						part(&h)
					}
				}
				p := from(t, based())
				p.remove("snap.4")
				for _, name := range []string{"snap.4", "snap.6", "snap.9", "snap.10", "snap.04"} {
					p.lay(name, []byte("as it was"))
				}
				if draft {
					p.lay("snap.tmp", []byte("as it was"))
				}
				p.saved(t, h)
				isHard(t, p.s, h)
				checkParts(t, files(p.d), set, draft, h)
			}
		}
	}
}

// checkParts looks at what stands on the disk behind a Save of h, in which the parts of the set were other ones.
func checkParts(t *testing.T, got map[string]string, set int, draft bool, h api.Hard) {
	t.Helper()
	const old = "as it was"
	want := map[string]string{"snap.04": old}
	if set&3 == 0 {
		want["snap.4"], want["snap.6"], want["snap.9"], want["snap.10"] = old, old, old, old
		if draft && set == 0 {
			want["snap.tmp"] = old
		}
	}
	if set != 0 {
		want[snapName(h.Base)] = string(snapFile(h))
	} else {
		want["snap.4"] = old
	}
	for name, b := range got {
		if strings.HasPrefix(name, "snap") && want[name] != b {
			t.Fatalf("set %d, %s: %q, not %q", set, name, b, want[name])
		}
		delete(want, name)
	}
	if len(want) != 0 {
		t.Fatalf("set %d: %q are missing", set, want)
	}
}

// TestSaveWithoutABase lays no snapshot; what is beside goes when the Base does.
func TestSaveWithoutABase(t *testing.T) {
	beside := func(p *pair) {
		for _, name := range []string{"snap.9", "snap.tmp", "snap.1", "snap.0"} {
			p.lay(name, []byte("x"))
		}
	}
	for _, h := range []api.Hard{turned(baseless), turned(baseless, members(3)), turned(baseless, term(9), voted(2), logged())} {
		p := both().opened(t)
		beside(p)
		p.saved(t, h)
		names(t, p.d, "snap.0", "snap.1", "snap.9", "snap.tmp", "wal.1")
		p = from(t, turned(baseless))
		beside(p)
		p.saved(t, h)
		got := slices.DeleteFunc(p.d.Names(), func(name string) bool { return strings.HasPrefix(name, "wal.") })
		if !slices.Equal(got, []string{"snap.0", "snap.1", "snap.9", "snap.tmp"}) {
			t.Errorf("%q", got)
		}
		p = from(t, based())
		beside(p)
		p.saved(t, h)
		names(t, p.d, "snap.0", "wal.2")
		isHard(t, p.s, h)
		p.opened(t)
		isHard(t, p.s, h)
	}
}

// TestSaveOfTheSame needs no change of the disk, and no power, whatever stands beside.
func TestSaveOfTheSame(t *testing.T) {
	for _, h := range []api.Hard{based(), turned(voted(3)), turned(baseless), turned(logged()), {Vote: -1, Members: 1}} {
		p := from(t, h)
		p.lay("snap.tmp", []byte("x"))
		p.lay("snap.9", []byte("x"))
		was := files(p.d)
		p.arm(0)
		p.saved(t, h, h)
		if p.d.Off() {
			t.Error("a Save of the same changed the disk")
		}
		p.lay("z", nil)
		p.saved(t, h)
		unchanged(t, p.d, was)
		if e := p.save(t, turned(term(9))); e != api.ErrDown {
			t.Errorf("without power: %d", e)
		}
		if e := p.save(t, h); e != api.ErrDown {
			t.Errorf("the same, behind an error: %d", e)
		}
	}
}

// notRight are some Hards that aren't.
func notRight() []api.Hard {
	return []api.Hard{
		{}, {Vote: -1}, turned(term(-1)), turned(term(4)), turned(term(topTerm + 1)), turned(voted(-2)), turned(voted(7)),
		turned(base(0)), turned(base(-1)), turned(base(topIndex - 3)), turned(base(least)), turned(base(most)),
		turned(baseTerm(0)), turned(baseTerm(3)), turned(baseTerm(-1)), turned(members(0)), turned(members(128)), turned(members(-1)),
		turned(snap("")), turned(snap(strings.Repeat("s", longImage+1))), turned(baseless, snap("s")), turned(baseless, baseTerm(1)), turned(baseless, base(4)),
		turned(plus(en(4, ""))), turned(plus(en(6, ""))), turned(plus(of(5, 128))), turned(plus(api.Entry{Term: 5, Members: 1, Data: "x"})),
		turned(plus(en(5, strings.Repeat("x", 1101)))), turned(plus(slices.Repeat(log(en(5, "")), 197)...)),
	}
}

// TestSaveOfWhatIsNotRight changes nothing, with an error of the disk ahead of it too.
func TestSaveOfWhatIsNotRight(t *testing.T) {
	for i, h := range notRight() {
		p := both().opened(t)
		p.arm(0)
		if e := p.save(t, h); e != api.ErrArg || p.d.Off() {
			t.Errorf("%d, without a segment: %d", i, e)
		}
		p = from(t, based())
		p.lay("snap.tmp", nil)
		was := files(p.d)
		p.arm(0)
		if e := p.save(t, h); e != api.ErrArg || p.d.Off() {
			t.Errorf("%d: %d", i, e)
		}
		isHard(t, p.s, based())
		unchanged(t, p.d, was)
		p.arm(-1)
		p.saved(t, turned(base(5)))
		p.arm(1)
		p.save(t, turned(base(6)))
		if e := p.save(t, h); e != api.ErrArg {
			t.Errorf("%d, behind an error of the disk: %d", i, e)
		}
		if e := p.save(t, turned(base(5))); e != api.ErrDown {
			t.Errorf("%d: the right one: %d", i, e)
		}
	}
}

// stage is what stands there when one change more is refused: the names, whether the Hard is h already, and what Save answers.
type stage struct {
	names []string
	now   bool
	e     api.Errno
}

// down is a stage ahead of the wal's last change, late one behind it.
func down(names ...string) stage { return stage{names, false, api.ErrDown} }
func late(names ...string) stage { return stage{names, true, api.ErrDown} }
func fine(names ...string) stage { return stage{names, true, api.OK} }

// TestSaveInOrder lets one change more be done each time, and looks at what stands there, by hand.
func TestSaveInOrder(t *testing.T) {
	for what, c := range map[string]struct {
		was, h api.Hard
		beside []string
		want   []stage
	}{
		"a first snapshot": {api.Hard{}, based(), nil, []stage{
			down(), down("snap.tmp"), down("snap.tmp"), down("snap.4"), down("snap.4", "wal.1"), fine("snap.4", "wal.1"),
		}},
		"no snapshot": {api.Hard{}, turned(baseless), []string{"snap.9", "snap.tmp"}, []stage{
			down("snap.9", "snap.tmp"), down("snap.9", "snap.tmp", "wal.1"), fine("snap.9", "snap.tmp", "wal.1"),
		}},
		"the next snapshot": {based(), turned(base(10)), nil, []stage{
			down("snap.4", "wal.1"), down("snap.4", "snap.tmp", "wal.1"), down("snap.4", "snap.tmp", "wal.1"),
			down("snap.10", "snap.4", "wal.1"), down("snap.10", "snap.4", "wal.1", "wal.2"), down("snap.10", "snap.4", "wal.1", "wal.2"),
			late("snap.10", "snap.4", "wal.2"), fine("snap.10", "wal.2"),
		}},
		"a lesser Base, and files beside": {turned(base(10)), based(), []string{"snap.9", "snap.100", "snap.tmp"}, []stage{
			down("snap.10", "snap.100", "snap.9", "snap.tmp", "wal.1"), down("snap.10", "snap.100", "snap.9", "wal.1"),
			down("snap.10", "snap.100", "snap.9", "snap.tmp", "wal.1"), down("snap.10", "snap.100", "snap.9", "snap.tmp", "wal.1"),
			down("snap.10", "snap.100", "snap.4", "snap.9", "wal.1"), down("snap.10", "snap.100", "snap.4", "snap.9", "wal.1", "wal.2"),
			down("snap.10", "snap.100", "snap.4", "snap.9", "wal.1", "wal.2"), late("snap.10", "snap.100", "snap.4", "snap.9", "wal.2"),
			late("snap.100", "snap.4", "snap.9", "wal.2"), late("snap.4", "snap.9", "wal.2"), fine("snap.4", "wal.2"),
		}},
		"the Base goes": {based(), turned(baseless), []string{"snap.10", "snap.tmp"}, []stage{
			down("snap.10", "snap.4", "snap.tmp", "wal.1"), down("snap.10", "snap.4", "snap.tmp", "wal.1", "wal.2"),
			down("snap.10", "snap.4", "snap.tmp", "wal.1", "wal.2"), late("snap.10", "snap.4", "snap.tmp", "wal.2"),
			late("snap.4", "snap.tmp", "wal.2"), late("snap.tmp", "wal.2"), fine("wal.2"),
		}},
		"another Snap alone": {based(), turned(snap("other")), []string{"snap.10"}, []stage{
			down("snap.10", "snap.4", "wal.1"), down("snap.10", "snap.4", "snap.tmp", "wal.1"), down("snap.10", "snap.4", "snap.tmp", "wal.1"),
			late("snap.10", "snap.4", "wal.1"), fine("snap.4", "wal.1"),
		}},
		"another Snap, and a vote": {based(), turned(snap("other"), voted(3)), nil, []stage{
			down("snap.4", "wal.1"), down("snap.4", "snap.tmp", "wal.1"), down("snap.4", "snap.tmp", "wal.1"),
			down("snap.4", "wal.1"), down("snap.4", "wal.1"), fine("snap.4", "wal.1"),
		}},
		"other Members": {based(), turned(members(3)), []string{"snap.10"}, []stage{
			down("snap.10", "snap.4", "wal.1"), down("snap.10", "snap.4", "snap.tmp", "wal.1"), down("snap.10", "snap.4", "snap.tmp", "wal.1"),
			down("snap.10", "snap.4", "wal.1"), down("snap.10", "snap.4", "wal.1", "wal.2"), down("snap.10", "snap.4", "wal.1", "wal.2"),
			fine("snap.10", "snap.4", "wal.2"),
		}},
		"the wal's part": {based(), turned(plus(en(5, "e"))), []string{"snap.10", "snap.tmp"}, []stage{
			down("snap.10", "snap.4", "snap.tmp", "wal.1"), down("snap.10", "snap.4", "snap.tmp", "wal.1"), fine("snap.10", "snap.4", "snap.tmp", "wal.1"),
		}},
	} {
		for n, want := range append(c.want, c.want[len(c.want)-1]) {
			p := both().opened(t)
			was := api.Hard{Vote: -1}
			if c.was.Members != 0 {
				p.saved(t, c.was)
				was = c.was
			}
			for _, name := range c.beside {
				p.lay(name, []byte("beside"))
			}
			p.arm(n)
			if e := p.save(t, c.h); e != want.e || p.d.Off() != (e != api.OK) {
				t.Fatalf("%s, %d: %d", what, n, e)
			}
			names(t, p.d, want.names...)
			if want.now {
				was = c.h
			}
			isHard(t, p.s, was)
			if want.e != api.OK {
				p.refuses(t, was, c.h)
			}
		}
	}
}

// refuses fails, if a Save isn't refused as behind an error, of whatever is right, when power is back too.
func (p *pair) refuses(t *testing.T, was, h api.Hard) {
	t.Helper()
	for range 2 {
		all := files(p.d)
		for _, h := range []api.Hard{h, was, based(), turned(base(5)), turned(baseless), turned(voted(6)), {Members: 1}} {
			want := api.ErrDown
			if h.Members == 0 {
				want = api.ErrArg
			}
			if e := p.save(t, h); e != want {
				t.Fatalf("behind an error: %d", e)
			}
		}
		isHard(t, p.s, was)
		unchanged(t, p.d, all)
		p.crash()
	}
}

// TestWhatIsSyncedAheadOfTheRename has a crash behind each change: the draft's bytes last when it is renamed, and not ahead of the sync.
func TestWhatIsSyncedAheadOfTheRename(t *testing.T) {
	h := turned(base(10), snap(strings.Repeat("n", 50)))
	b := snapFile(h)
	for n := range 9 {
		for _, draft := range []bool{false, true} {
			p := from(t, based())
			if draft {
				p.lay("snap.tmp", []byte("left behind"))
				p.d.Sync("snap.tmp")
				p.twin.Sync("snap.tmp")
				p.arm(n + 1)
			} else {
				p.arm(n)
			}
			p.save(t, h)
			p.crash(0, 0, 0, 0)
			switch n {
			case 0:
				if got, _ := p.d.Read("snap.tmp"); got != nil {
					t.Fatalf("%d: % x", n, got)
				}
			case 1:
				holds(t, p.d, "snap.tmp", nil)
			case 2:
				holds(t, p.d, "snap.tmp", b)
			default:
				holds(t, p.d, "snap.10", b)
			}
			if n < 7 {
				holds(t, p.d, "snap.4", snapFile(based()))
			}
		}
	}
}

// filled leaves just so many bytes of the disks.
func (p *pair) filled(n int) {
	p.lay("z", make([]byte, allOnDisk-p.d.Total()-n))
}

// TestAFullDisk leaves room for just what is appended, or for one byte fewer: of the draft, and of the wal, to which a snapshot that is replaced gives room.
func TestAFullDisk(t *testing.T) {
	old := len(snapFile(based()))
	for _, c := range []struct {
		h           api.Hard
		freed, more int
	}{
		{turned(base(6)), 0, len(walFile(turned(base(6))))},
		{turned(base(6), snap(strings.Repeat("s", longImage))), 0, len(walFile(turned(base(6))))},
		{turned(members(3)), old, len(walFile(turned(members(3))))},
		{turned(snap("other"), voted(2)), old, len(framed(nums(4, 5, 2)))},
		{turned(snap("o"), voted(2)), old, len(framed(nums(4, 5, 2)))},
	} {
		draft := len(snapFile(c.h))
		need := max(draft, draft-c.freed+c.more)
		for _, room := range []int{0, draft - 1, draft, need - 1, need} {
			p := from(t, based())
			p.filled(room)
			e := p.save(t, c.h)
			if want := map[bool]api.Errno{true: api.OK, false: api.ErrFull}[room >= need]; e != want {
				t.Fatalf("room for %d of %d and %d: %d, not %d", room, draft, need, e, want)
			}
			if e == api.OK {
				continue
			}
			isHard(t, p.s, based())
			if room < draft {
				names(t, p.d, "snap.4", "wal.1", "z")
				holds(t, p.d, "snap.4", snapFile(based()))
			} else {
				holds(t, p.d, snapName(c.h.Base), snapFile(c.h))
			}
			p.remove("z")
			p.refuses(t, based(), c.h)
		}
	}
	// what is left behind of a draft is removed first, and gives room
	p := from(t, based())
	h := turned(base(6))
	p.lay("snap.tmp", make([]byte, 5000))
	p.filled(0)
	p.saved(t, h)
	names(t, p.d, "snap.6", "wal.2", "z")
}

// TestTheWalsLastNumber has a wal that can't lay anew: that is no error of the disk, so that what needs no new segment may yet be saved.
func TestTheWalsLastNumber(t *testing.T) {
	for _, h := range []api.Hard{based(), turned(baseless)} {
		p := both()
		p.lay(lastName, walFile(h))
		if h.Base != 0 {
			p.lay("snap.4", snapFile(h))
		}
		p.opened(t)
		for k := range 4 {
			for _, next := range []api.Hard{turned(base(9)), turned(baseless, members(3)), turned(base(10), snap("ten"), members(1)), turned(term(4), logged(), base(12))} {
				if e := p.save(t, next); e != api.ErrFull || p.d.Off() {
					t.Fatalf("%s: %d", brief(next), e)
				}
				isHard(t, p.s, h)
				if next.Base != 0 {
					holds(t, p.d, snapName(next.Base), snapFile(next))
				}
			}
			h.Term++
			h.Log = append(slices.Clip(h.Log), en(h.Term, fmt.Sprint(k)))
			p.saved(t, h)
			isHard(t, p.s, h)
			if k == 1 {
				p.opened(t)
				isHard(t, p.s, h)
			}
		}
		// a Snap alone needs no segment
		if h.Base != 0 {
			h.Snap = "another"
			p.saved(t, h)
			names(t, p.d, "snap.4", lastName)
			p.opened(t)
			isHard(t, p.s, h)
		}
	}
}

// TestTheWalsLastNumberBehindTheSnapshot has the snapshot's file be the new one's already when the wal refuses: the order is the chapter's, and Hard is what it was.
func TestTheWalsLastNumberBehindTheSnapshot(t *testing.T) {
	p := both()
	p.lay(lastName, walFile(based()))
	p.lay("snap.4", snapFile(based()))
	p.opened(t)
	h := turned(members(3))
	if e := p.save(t, h); e != api.ErrFull {
		t.Fatal(e)
	}
	isHard(t, p.s, based())
	holds(t, p.d, "snap.4", snapFile(h))
	p.saved(t, based(), turned(voted(3)))
	if e := p.open(t); e != api.ErrForm {
		t.Errorf("Open: %d", e)
	}
}

// TestTheWalsLastNumberOnAFullDisk tells the two refusals from one another, though both are ErrFull.
func TestTheWalsLastNumberOnAFullDisk(t *testing.T) {
	last := func() *pair {
		p := both()
		p.lay(lastName, walFile(based()))
		p.lay("snap.4", snapFile(based()))
		return p.opened(t)
	}
	h := turned(plus(en(5, "e")))
	// no room for what the wal appends
	p := last()
	p.filled(3)
	if e := p.save(t, h); e != api.ErrFull {
		t.Fatal(e)
	}
	p.remove("z")
	p.refuses(t, based(), h)
	// no room for the draft
	p = last()
	p.filled(3)
	if e := p.save(t, turned(base(9))); e != api.ErrFull {
		t.Fatal(e)
	}
	p.remove("z")
	p.refuses(t, based(), h)
	// room for the draft, and no number for the wal
	p = last()
	next := turned(base(9))
	p.d.Append("z", make([]byte, allOnDisk-p.d.Total()-len(snapFile(next))))
	for range 2 {
		if e := p.s.Save(next); e != api.ErrFull {
			t.Fatal(e)
		}
		isHard(t, p.s, based())
		holds(t, p.d, "snap.9", snapFile(next))
		p.d.Remove("snap.9")
	}
	if e := p.s.Save(based()); e != api.OK {
		t.Fatal(e)
	}
	if e := p.s.Save(h); e != api.OK {
		t.Fatal(e)
	}
	isHard(t, p.s, h)
	// the wal's own room is full, ahead of any segment
	p = both().opened(t)
	p.filled(len(snapFile(based())))
	if e := p.save(t, based()); e != api.ErrFull {
		t.Fatal(e)
	}
	names(t, p.d, "snap.4", "z")
	p.remove("z")
	p.refuses(t, api.Hard{Vote: -1}, h)
}

// TestDrawnSaves has Saves one behind the other, with Opens, arms and crashes between, and files that come from elsewhere.
func TestDrawnSaves(t *testing.T) {
	draw := rand.New(rand.NewSource(193))
	seen := map[api.Errno]int{}
	for range 300 {
		p := both().opened(t)
		now := api.Hard{Term: 1, Vote: -1, Members: 3}
		for range 40 {
			if draw.Intn(4) == 0 {
				p.arm(draw.Intn(10))
			}
			if draw.Intn(12) == 0 {
				name := []string{"snap.tmp", "snap.99", "snap.6", "snap.06", "snap.x"}[draw.Intn(5)]
				if name != snapName(now.Base) {
					p.lay(name, []byte("from elsewhere"))
				}
			}
			h := drawnNext(draw, now)
			e := p.save(t, h)
			if seen[e]++; e == api.OK {
				now = h
			}
			if e == api.ErrDown || draw.Intn(9) == 0 {
				p.crash(drawnPicks(draw)...)
				e := p.open(t)
				for e == api.ErrDown {
					p.crash(drawnPicks(draw)...)
					e = p.open(t)
				}
				if e != api.OK {
					// a snapshot whose head alone is another one came ahead of its segment
					seen[e]++
					break
				}
				if now = p.s.Hard(); now.Members == 0 {
					now = api.Hard{Term: 1, Vote: -1, Members: 3}
				}
			}
		}
	}
	for _, e := range []api.Errno{api.OK, api.ErrArg, api.ErrDown, api.ErrForm} {
		if seen[e] < map[bool]int{true: 5, false: 300}[e == api.ErrForm] {
			t.Errorf("%v", seen)
		}
	}
}

// TestTwoStoresOnTwoDisks share nothing.
func TestTwoStoresOnTwoDisks(t *testing.T) {
	a, b := from(t, based()), from(t, turned(base(9), snap("b")))
	a.saved(t, turned(base(6), snap("a")))
	b.saved(t, turned(base(10), snap("bb")))
	a.alike(t)
	a.saved(t, turned(baseless))
	b.alike(t)
}
