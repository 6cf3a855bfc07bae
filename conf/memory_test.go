package conf_test

import (
	"math/rand"
	"slices"
	"testing"
	"unsafe"

	"impost/api"
	"impost/conf"
)

// R1, R2, R4, R5

// roomy is l with spare room whose entries say who belongs.
func roomy(l []api.Entry) []api.Entry {
	spare := slices.Repeat([]api.Entry{{Term: 9, Members: 99, Data: "spare"}}, 6)
	return append(append(make([]api.Entry, 0, len(l)+6), l...), spare...)[:len(l)]
}

// whole is l with its spare room.
func whole[T any](l []T) []T { return l[:cap(l)] }

func logs() [][]api.Entry {
	x := holds(1, "x")
	return [][]api.Entry{nil, {}, {x}, {says(1, 3)}, {says(1, 3), x}, {x, says(1, 3)}, {x, says(1, 3), x, says(2, 1), x}, make([]api.Entry, longLog)}
}

// TestWhatOfIsHandedStays, with the Log's entries and its spare room.
func TestWhatOfIsHandedStays(t *testing.T) {
	for _, base := range []int{0, 5} {
		for _, l := range logs() {
			h := hard(base, 7, roomy(l)...)
			was, all := h, slices.Clone(whole(h.Log))
			m, n := of(hard(base, 7, l...))
			ofIs(t, h, m, n)
			ofIs(t, h, m, n)
			if !slices.Equal(whole(h.Log), all) || len(h.Log) != len(l) {
				t.Errorf("%v became %v", all, whole(h.Log))
			}
			if h.Term != was.Term || h.Vote != was.Vote || h.Base != was.Base || h.BaseTerm != was.BaseTerm || h.Members != was.Members || h.Snap != was.Snap {
				t.Errorf("%v became %v", was, h)
			}
		}
	}
}

// TestOfKeepsNothing: a Log that is another one behind a call is asked anew.
func TestOfKeepsNothing(t *testing.T) {
	h := hard(5, 7, roomy([]api.Entry{holds(1, "x"), says(1, 3), holds(1, "y")})...)
	ofIs(t, h, 3, 7)
	h.Log[1].Members = 1
	ofIs(t, h, 1, 7)
	h.Log[1].Members = 0
	ofIs(t, h, 7, 5)
	h.Log[2].Members = 15
	ofIs(t, h, 15, 8)
	h.Log = h.Log[:2]
	ofIs(t, h, 7, 5)
	h.Log = whole(h.Log)
	ofIs(t, h, 99, 5+len(h.Log))
}

// TestSpareRoomIsNotRead: what stands behind the length of a Log is none of it.
func TestSpareRoomIsNotRead(t *testing.T) {
	all := []api.Entry{holds(1, "x"), says(1, 3), holds(1, "y"), says(1, 15), holds(1, "z")}
	for n := range len(all) + 1 {
		m, at := of(hard(5, 7, slices.Clone(all[:n])...))
		ofIs(t, hard(5, 7, all[:n]...), m, at)
	}
}

// span is where l's memory begins and ends, with its spare room.
func span(l []int) (from, to uintptr) {
	from = uintptr(unsafe.Pointer(unsafe.SliceData(l)))
	return from, from + uintptr(cap(l))*unsafe.Sizeof(0)
}

// apart tells whether a and b share no memory, their spare room neither.
func apart(a, b []int) bool {
	if cap(a) == 0 || cap(b) == 0 {
		return true
	}
	aFrom, aTo := span(a)
	bFrom, bTo := span(b)
	return aTo <= bFrom || bTo <= aFrom
}

// TestListIsNewMemory: what is written over one answer, and over its spare room, touches no other one.
func TestListIsNewMemory(t *testing.T) {
	var before [][]int
	for _, m := range sets() {
		want := members(m)
		first, again := conf.List(m), conf.List(m)
		if !apart(first, again) {
			t.Fatalf("two lists of %d share memory", m)
		}
		for _, l := range before {
			if !apart(first, l) || !apart(again, l) {
				t.Fatalf("the list of %d shares memory with one ahead of it", m)
			}
		}
		room := slices.Clone(whole(again))
		for k := range whole(first) {
			whole(first)[k] = -7
		}
		_ = append(first, 8, 9, 10)
		if !slices.Equal(again, want) || !slices.Equal(whole(again), room) {
			t.Fatalf("the list of %d changed with another one: %v", m, whole(again))
		}
		listIs(t, m, want...)
		before = append(before, first, again)
	}
}

// TestTheSameAgain: in any order of calls, and again, the answers are the same.
func TestTheSameAgain(t *testing.T) {
	draw := rand.New(rand.NewSource(213))
	all := sets()
	for range 20000 {
		m, n, id := all[draw.Intn(len(all))], all[draw.Intn(len(all))], draw.Intn(12)-3
		switch draw.Intn(5) {
		case 0:
			if conf.Right(m) != isRight(m) {
				t.Fatal(m)
			}
		case 1:
			if conf.Has(m, id) != slices.Contains(members(m), id) {
				t.Fatal(m, id)
			}
		case 2:
			listIs(t, m, members(m)...)
		case 3:
			mostIs(t, m, n, isMost(m, n))
		case 4:
			mayIs(t, m, n, mayBecome(m, n))
		}
	}
}

// TestAnythingEnds hands in numbers that are drawn without a thought to what they mean.
func TestAnythingEnds(t *testing.T) {
	draw := rand.New(rand.NewSource(214))
	wild := func() int {
		n := int(draw.Uint64()) >> draw.Intn(64)
		if draw.Intn(8) == 0 {
			return []int{least, -1, 0, 1, most}[draw.Intn(5)]
		}
		return n
	}
	for range 50000 {
		m, n := wild(), wild()
		if conf.Right(m) != isRight(m) || conf.Has(m, n) != slices.Contains(members(m), n) || conf.Most(m, n) != isMost(m, n) || conf.May(m, n) != mayBecome(m, n) {
			t.Fatal(m, n)
		}
		listIs(t, m, members(m)...)
		h := api.Hard{Term: wild(), Vote: wild(), Base: wild() / 2, BaseTerm: wild(), Members: wild()}
		for range draw.Intn(4) {
			h.Log = append(h.Log, api.Entry{Term: wild(), Members: wild()})
		}
		who, at := of(h)
		ofIs(t, h, who, at)
	}
}
