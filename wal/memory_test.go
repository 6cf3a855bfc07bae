package wal_test

import (
	"fmt"
	"math/rand"
	"slices"
	"strings"
	"testing"
	"unsafe"

	"impost/api"
	"impost/wal"
)

// R1, R2, R4, R5

// roomy is h with a Log that has spare room with something in it.
func roomy(h api.Hard) api.Hard {
	h.Log = append(append(make([]api.Entry, 0, len(h.Log)+5), h.Log...), slices.Repeat(log(en(5, "spare")), 5)...)[:len(h.Log)]
	return h
}

// spare is a Log with its spare room.
func spare(h api.Hard) []api.Entry { return h.Log[:cap(h.Log)] }

// spoil writes over a Log and its spare room.
func spoil(h api.Hard) {
	for k := range spare(h) {
		spare(h)[k] = api.Entry{Term: -7, Members: 99, Data: "spoilt"}
	}
}

// apart tells whether two Logs share no memory, their spare room included.
func apart(a, b api.Hard) bool {
	if cap(a.Log) == 0 || cap(b.Log) == 0 {
		return true
	}
	size := unsafe.Sizeof(api.Entry{})
	from, from2 := uintptr(unsafe.Pointer(unsafe.SliceData(a.Log))), uintptr(unsafe.Pointer(unsafe.SliceData(b.Log)))
	return from+uintptr(cap(a.Log))*size <= from2 || from2+uintptr(cap(b.Log))*size <= from
}

// some are Hards that are saved one behind the other: laid anew and not, with the Log longer, shorter, empty and other.
func some() []api.Hard {
	return []api.Hard{based(), turned(voted(3)), turned(voted(3), plus(en(5, "e"), en(5, "f"))), turned(voted(3), fewer(3)), turned(voted(3), fewer(3), plus(en(4, "n"), of(5, 9))), turned(members(1), logged()), turned(members(1), plus(en(5, "last")))}
}

// TestWhatIsSavedStays asks Right and Save of Hards with spare room, of some that are refused too.
func TestWhatIsSavedStays(t *testing.T) {
	p := both().opened(t)
	for _, h := range append(some(), turned(members(0)), turned(plus(en(1, ""))), turned(plus(of(9, 200)))) {
		h = roomy(h)
		was, all := h, slices.Clone(spare(h))
		wal.Right(h)
		p.save(t, h)
		p.w.Hard()
		if !slices.Equal(spare(h), all) || !same(h, was) {
			t.Errorf("%s became %s", brief(was), brief(h))
		}
	}
	p.arm(1)
	h := roomy(turned(members(5)))
	all := slices.Clone(spare(h))
	if e := p.save(t, h); e != api.ErrDown || !slices.Equal(spare(h), all) {
		t.Errorf("%d: %v", e, spare(h))
	}
}

// TestWhatWasSavedMayBeTurned turns each Log behind its Save: neither the Wal nor the next Save leans on it.
func TestWhatWasSavedMayBeTurned(t *testing.T) {
	p := both().opened(t)
	for _, h := range some() {
		mine := roomy(h)
		if e := p.w.Save(mine); e != api.OK {
			t.Fatalf("%d", e)
		}
		if !apart(mine, p.w.Hard()) {
			t.Error("Hard answers what was handed in")
		}
		spoil(mine)
		isHard(t, p.w, bare(h))
		if e := p.m.save(h); e != api.OK {
			t.Fatalf("%d", e)
		}
		p.alike(t)
	}
}

// TestTextsAreTheWalsOwn turns the memory of Data that was handed in.
func TestTextsAreTheWalsOwn(t *testing.T) {
	for _, ahead := range []api.Hard{turned(logged()), turned(members(1), logged())} {
		p := from(t, ahead)
		data, image := []byte("some bytes"), []byte("snap")
		h := turned(logged(en(5, unsafe.String(unsafe.SliceData(data), len(data)))), snap(unsafe.String(unsafe.SliceData(image), len(image))))
		if e := p.w.Save(h); e != api.OK {
			t.Fatalf("%d", e)
		}
		clear(data)
		clear(image)
		isHard(t, p.w, bare(turned(logged(en(5, "some bytes")))))
	}
}

// TestSpareRoomIsNotRead saves pieces of a list (R5).
func TestSpareRoomIsNotRead(t *testing.T) {
	all := log(en(2, "a"), en(3, "b"), en(5, "c"), en(1, "not right"), of(200, -1))
	p := both().opened(t)
	for _, n := range []int{0, 1, 3, 2, 0, 3, 1} {
		h := turned(logged(all[:n]...))
		if !wal.Right(h) {
			t.Fatalf("%d of them are right", n)
		}
		p.saved(t, h)
	}
}

// TestWhatHardAnswersMayBeTurned turns answers, their spare room too, ahead of more Saves and behind them.
func TestWhatHardAnswersMayBeTurned(t *testing.T) {
	p := both().opened(t)
	spoil(p.w.Hard())
	isHard(t, p.w, api.Hard{Vote: -1})
	for _, h := range some() {
		p.saved(t, h)
		for range 2 {
			first, second := p.w.Hard(), p.w.Hard()
			if !apart(first, second) {
				t.Error("two answers share memory")
			}
			spoil(first)
			isHard(t, p.w, bare(h))
			if !same(second, bare(h)) {
				t.Error("turning one answer turns another one")
			}
			_ = append(second.Log, en(5, "behind"))
			isHard(t, p.w, bare(h))
			p.saved(t, h)
			p.opened(t)
		}
	}
}

// TestWhatHardAnsweredStays has more Saves behind each answer.
func TestWhatHardAnsweredStays(t *testing.T) {
	p := both().opened(t)
	none := p.w.Hard()
	var got []api.Hard
	for range 3 {
		for _, h := range some() {
			p.saved(t, h)
			got = append(got, p.w.Hard())
		}
	}
	if !same(none, api.Hard{Vote: -1}) {
		t.Errorf("the first answer became %s", brief(none))
	}
	for k, h := range got {
		if want := bare(some()[k%len(some())]); !same(h, want) {
			t.Errorf("%s became %s", brief(want), brief(h))
		}
	}
}

// TestWhatHardAnswersIsSaved hands an answer in again, with something done to it.
func TestWhatHardAnswersIsSaved(t *testing.T) {
	p := from(t, based())
	for k := range 40 {
		h := snapped(p.w.Hard())
		switch k % 4 {
		case 0:
			h.Log = append(h.Log, en(h.Term, fmt.Sprint(k)))
		case 1:
			h.Term++
		case 2:
			h.Log[len(h.Log)/2].Data, h.Log[len(h.Log)/2].Members = "new", 0
		case 3:
			h.Log = append(h.Log[:1], h.Log[2:]...)
			h.Log = append(h.Log, en(h.Term, ""))
		}
		p.saved(t, h)
	}
}

// TestNilAndEmptyLogs mean the same (R4).
func TestNilAndEmptyLogs(t *testing.T) {
	full := turned(logged(en(5, "a")))
	for _, ahead := range []api.Hard{turned(logged()), full} {
		for _, l := range [][]api.Entry{nil, {}, slices.Clone(full.Log)[:0]} {
			p := from(t, ahead)
			h := based()
			h.Log = l
			if !wal.Right(h) {
				t.Error("not right")
			}
			p.saved(t, h)
			p.opened(t).saved(t, h)
		}
	}
}

// TestNothingPanics asks anything of disks that have anything (R1).
func TestNothingPanics(t *testing.T) {
	draw := rand.New(rand.NewSource(187))
	edge := func() int {
		return []int{least, least + 1, -2, -1, 0, 1, 2, 3, 6, 7, 127, 128, topTerm - 1, topTerm, topTerm + 1, most - 1, most}[draw.Intn(17)]
	}
	hard := func() api.Hard {
		h := api.Hard{Term: edge(), Vote: edge(), Base: edge(), BaseTerm: edge(), Members: edge(), Snap: strings.Repeat("s", draw.Intn(2))}
		for range draw.Intn(4) {
			h.Log = append(h.Log, api.Entry{Term: edge(), Members: edge(), Data: strings.Repeat("d", draw.Intn(2))})
		}
		return h
	}
	count := 0
	for range 4000 {
		p := both()
		for range draw.Intn(3) {
			h := hard()
			name, b := drawnFile(draw)
			switch draw.Intn(3) {
			case 0:
				b = records(append(laid(h), vote(edge(), edge()), cut(edge()), entry(api.Entry{Term: edge(), Members: edge()}))...)
			case 1:
				b = records(laid(based())...)
				for range draw.Intn(5) {
					b = append(b, records([][]byte{vote(edge(), edge()), cut(edge()), nums(edge(), edge()), entry(api.Entry{Term: edge(), Members: edge()}), nums(2, edge(), edge(), edge())}[draw.Intn(5)])...)
				}
			}
			p.lay(name, b)
		}
		p.opened(t)
		for range 5 {
			h := hard()
			if draw.Intn(2) == 0 {
				h = turned(term(edge()), voted(edge()))
			}
			if p.save(t, h) == api.OK {
				count++
			}
		}
	}
	if count < 500 {
		t.Errorf("%d were right", count)
	}
}
