package store_test

import (
	"fmt"
	"math/rand"
	"slices"
	"strings"
	"testing"
	"unsafe"

	"impost/api"
	"impost/store"
)

// R1, R2, R4, R5

// roomy is h with a Log that has spare room with something in it.
func roomy(h api.Hard) api.Hard {
	h.Log = append(append(make([]api.Entry, 0, len(h.Log)+5), h.Log...), slices.Repeat(log(en(5, "spare")), 5)...)[:len(h.Log)]
	return h
}

// spare is a Log with its spare room.
func spare(h api.Hard) []api.Entry { return h.Log[:cap(h.Log)] }

// spoil writes over a Log and its spare room.
func spoil(h api.Hard) {
	for k := range spare(h) {
		spare(h)[k] = api.Entry{Term: -7, Members: 99, Data: "spoilt"}
	}
}

// apart tells whether two Logs share no memory, their spare room included.
func apart(a, b api.Hard) bool {
	if cap(a.Log) == 0 || cap(b.Log) == 0 {
		return true
	}
	size := unsafe.Sizeof(api.Entry{})
	from, from2 := uintptr(unsafe.Pointer(unsafe.SliceData(a.Log))), uintptr(unsafe.Pointer(unsafe.SliceData(b.Log)))
	return from+uintptr(cap(a.Log))*size <= from2 || from2+uintptr(cap(b.Log))*size <= from
}

// some are Hards that are saved one behind the other.
func some() []api.Hard {
	return []api.Hard{turned(baseless), based(), turned(voted(3)), turned(voted(3), snap("other")), turned(base(9), plus(en(5, "e"), en(5, "f"))), turned(base(9), fewer(3)), turned(base(9), members(1), logged()), turned(base(8), snap("x"), plus(en(5, "last")))}
}

// TestWhatIsSavedStays saves Hards with spare room, some that are refused too.
func TestWhatIsSavedStays(t *testing.T) {
	p := both().opened(t)
	for _, h := range append(some(), turned(members(0)), turned(plus(en(1, ""))), turned(snap(""))) {
		h = roomy(h)
		was, all := h, slices.Clone(spare(h))
		p.save(t, h)
		p.s.Hard()
		if !slices.Equal(spare(h), all) || !same(h, was) {
			t.Errorf("%s became %s", brief(was), brief(h))
		}
	}
	for n := range 8 {
		p := from(t, based())
		p.arm(n)
		h := roomy(turned(base(6), members(5)))
		all := slices.Clone(spare(h))
		p.save(t, h)
		if !slices.Equal(spare(h), all) {
			t.Errorf("%d: %v", n, spare(h))
		}
	}
}

// TestWhatWasSavedMayBeTurned turns each Log behind its Save: neither the Store nor the next Save leans on it.
func TestWhatWasSavedMayBeTurned(t *testing.T) {
	p := both().opened(t)
	for _, h := range some() {
		mine := roomy(h)
		if e := p.s.Save(mine); e != api.OK {
			t.Fatalf("%d", e)
		}
		if !apart(mine, p.s.Hard()) {
			t.Error("Hard answers what was handed in")
		}
		spoil(mine)
		isHard(t, p.s, h)
		if e := p.m.save(h); e != api.OK {
			t.Fatalf("%d", e)
		}
		p.alike(t)
	}
}

// lent is the text of b's own memory.
func lent(b []byte) string { return unsafe.String(unsafe.SliceData(b), len(b)) }

// TestTextsAreTheStoresOwn turns the memory of a Snap and of Data that was handed in, behind a Save that takes them, one that changes the Snap alone, and one that fails behind them.
func TestTextsAreTheStoresOwn(t *testing.T) {
	for _, ahead := range []api.Hard{turned(baseless), based(), turned(base(9), members(1))} {
		p := from(t, ahead)
		for k := range 3 {
			data, image := []byte("some bytes"), []byte(fmt.Sprint("image ", k))
			if e := p.s.Save(turned(logged(en(5, lent(data))), snap(lent(image)))); e != api.OK {
				t.Fatalf("%d", e)
			}
			clear(data)
			clear(image)
			isHard(t, p.s, turned(logged(en(5, "some bytes")), snap(fmt.Sprint("image ", k))))
		}
		image := []byte("the last one")
		p.d.Arm(6)
		p.d.Append("snap.77", nil)
		p.d.Append("snap.78", nil)
		if e := p.s.Save(turned(logged(en(5, "some bytes")), snap(lent(image)))); e != api.ErrDown {
			t.Fatalf("%d", e)
		}
		clear(image)
		isHard(t, p.s, turned(logged(en(5, "some bytes")), snap("the last one")))
	}
}

// TestSpareRoomIsNotRead saves pieces of a list (R5).
func TestSpareRoomIsNotRead(t *testing.T) {
	all := log(en(2, "a"), en(3, "b"), en(5, "c"), en(1, "not right"), of(200, -1))
	p := both().opened(t)
	for k, n := range []int{0, 1, 3, 2, 0, 3, 1} {
		p.saved(t, turned(base(4+k/3), logged(all[:n]...)))
	}
}

// TestWhatHardAnswersMayBeTurned turns answers, their spare room too, ahead of more Saves and behind them.
func TestWhatHardAnswersMayBeTurned(t *testing.T) {
	p := both().opened(t)
	spoil(p.s.Hard())
	isHard(t, p.s, api.Hard{Vote: -1})
	for _, h := range some() {
		p.saved(t, h)
		for range 2 {
			first, second := p.s.Hard(), p.s.Hard()
			if !apart(first, second) {
				t.Error("two answers share memory")
			}
			spoil(first)
			first.Snap, first.Base = "spoilt", 99
			isHard(t, p.s, h)
			if !same(second, h) {
				t.Error("turning one answer turns another one")
			}
			_ = append(second.Log, en(5, "behind"))
			isHard(t, p.s, h)
			p.saved(t, h)
			p.opened(t)
		}
	}
}

// TestWhatHardAnsweredStays has more Saves behind each answer.
func TestWhatHardAnsweredStays(t *testing.T) {
	p := both().opened(t)
	none := p.s.Hard()
	var got []api.Hard
	for range 3 {
		for _, h := range some() {
			p.saved(t, h)
			got = append(got, p.s.Hard())
		}
	}
	if !same(none, api.Hard{Vote: -1}) {
		t.Errorf("the first answer became %s", brief(none))
	}
	for k, h := range got {
		if want := some()[k%len(some())]; !same(h, want) {
			t.Errorf("%s became %s", brief(want), brief(h))
		}
	}
}

// TestWhatHardAnswersIsSaved hands an answer in again, with something done to it.
func TestWhatHardAnswersIsSaved(t *testing.T) {
	p := from(t, based())
	for k := range 40 {
		h := p.s.Hard()
		switch k % 4 {
		case 0:
			h.Log = append(h.Log, en(h.Term, fmt.Sprint(k)))
		case 1:
			h.Term++
		case 2:
			h.Snap += "x"
		case 3:
			h.Base, h.BaseTerm, h.Log = h.Base+1, h.Log[0].Term, append(h.Log[1:], en(h.Term, ""))
		}
		p.saved(t, h)
	}
}

// TestTheDisksFilesAreNotHandedOut turns what is read of the disk behind a Save and an Open: that is the reader's own.
func TestTheDisksFilesAreNotHandedOut(t *testing.T) {
	p := from(t, based())
	for range 2 {
		for _, name := range p.d.Names() {
			b, _ := p.d.Read(name)
			clear(b)
		}
		isHard(t, p.s, based())
		p.opened(t)
	}
	// the file may go: what was opened or saved is told all the same
	p.remove("snap.4")
	isHard(t, p.s, based())
}

// TestNilAndEmptyLogs mean the same (R4).
func TestNilAndEmptyLogs(t *testing.T) {
	full := turned(logged(en(5, "a")))
	for _, ahead := range []api.Hard{turned(logged()), full} {
		for _, l := range [][]api.Entry{nil, {}, slices.Clone(full.Log)[:0]} {
			p := from(t, ahead)
			h := based()
			h.Log = l
			p.saved(t, h)
			p.opened(t).saved(t, h)
			h.Base++
			p.saved(t, h)
		}
	}
}

// TestNothingPanics asks anything of disks that have anything (R1).
func TestNothingPanics(t *testing.T) {
	draw := rand.New(rand.NewSource(196))
	edge := func() int {
		return []int{least, least + 1, -2, -1, 0, 1, 2, 3, 6, 7, 127, 128, topTerm - 1, topTerm, topTerm + 1, most - 1, most}[draw.Intn(17)]
	}
	hard := func() api.Hard {
		h := api.Hard{Term: edge(), Vote: edge(), Base: edge(), BaseTerm: edge(), Members: edge(), Snap: strings.Repeat("s", draw.Intn(3))}
		for range draw.Intn(3) {
			h.Log = append(h.Log, api.Entry{Term: edge(), Members: edge(), Data: strings.Repeat("d", draw.Intn(2))})
		}
		return h
	}
	seen := map[string]int{}
	for range 5000 {
		p := both()
		for range draw.Intn(4) {
			switch h := hard(); draw.Intn(4) {
			case 0:
				p.lay("wal.1", walFile(h))
			case 1:
				p.lay(snapName(h.Base), snapFile(h))
			case 2:
				p.lay("wal.1", walFile(turned(base(3))))
				p.lay("snap.3", framed(append(nums(edge(), edge(), edge(), edge()), "snap"...)))
			default:
				p.lay(drawnFile(draw))
			}
		}
		e := p.open(t)
		seen[fmt.Sprint("Open ", e)]++
		if e != api.OK {
			continue
		}
		for range 5 {
			h := hard()
			if draw.Intn(2) == 0 {
				h = turned(base(edge()), voted(edge()), members(edge()))
			}
			seen[fmt.Sprint("Save ", p.save(t, h))]++
		}
	}
	if seen["Open 0"] < 1000 || seen["Open 4"] < 500 || seen["Save 0"] < 200 || seen["Save 1"] < 1000 || len(seen) != 4 {
		t.Errorf("%v", seen)
	}
	if s, e := store.Open(nil); s != nil || e != api.ErrArg {
		t.Errorf("%v, %d", s, e)
	}
}
