package letter_test

import (
	"bytes"
	"math/rand"
	"reflect"
	"slices"
	"strings"
	"testing"
	"unsafe"

	"impost/api"
	"impost/letter"
)

// R1, R2, R4, R5

// roomy is m with Entries that have spare room with something in it.
func roomy(m api.Letter) api.Letter {
	m.Entries = spacious(m.Entries, api.Entry{Term: 9, Data: "spare"})
	return m
}

// spacious is a copy of l with spare room that x fills.
func spacious[T any](l []T, x T) []T {
	return append(append(make([]T, 0, len(l)+5), l...), slices.Repeat([]T{x}, 5)...)[:len(l)]
}

// whole is l with its spare room.
func whole[T any](l []T) []T { return l[:cap(l)] }

// fill writes over l and its spare room.
func fill[T any](l []T, x T) {
	for k := range whole(l) {
		whole(l)[k] = x
	}
}

func spoilt() api.Entry { return api.Entry{Term: -7, Members: 99, Data: "spoilt"} }

// span is where something's memory begins and ends.
type span struct{ from, to uintptr }

func spanOf[T any](l []T) span {
	var x T
	from := uintptr(unsafe.Pointer(unsafe.SliceData(l)))
	return span{from, from + uintptr(cap(l))*unsafe.Sizeof(x)}
}

func textSpan(s string) span {
	from := uintptr(unsafe.Pointer(unsafe.StringData(s)))
	return span{from, from + uintptr(len(s))}
}

// apart tells whether no two of them share memory.
func apart(l ...span) bool {
	l = slices.DeleteFunc(l, func(s span) bool { return s.from == s.to })
	slices.SortFunc(l, func(a, b span) int {
		if a.from < b.from {
			return -1
		}
		return 1
	})
	for k := 1; k < len(l); k++ {
		if l[k].from < l[k-1].to {
			return false
		}
	}
	return true
}

// textsApart tells whether none of m's texts lies in b. They may share memory with one another, as nothing can change them.
func textsApart(m api.Letter, b []byte) bool {
	for _, e := range m.Entries {
		if !apart(textSpan(e.Data), spanOf(b)) {
			return false
		}
	}
	return apart(textSpan(m.Data), spanOf(b))
}

// inputs are letters that are right, and ones that aren't.
func inputs() []api.Letter { return append(samples(), notRight()...) }

// TestWhatPutIsHandedStays, with its spare room; and what it answers is nobody else's.
func TestWhatPutIsHandedStays(t *testing.T) {
	for _, plain := range append(inputs(), batch(longBatch+1)) {
		m := roomy(plain)
		was, all := m, slices.Clone(whole(m.Entries))
		right, b := letter.Right(m), letter.Put(m)
		again := letter.Put(m)
		if !same(m, was) || !slices.Equal(whole(m.Entries), all) || right != (len(b) > 0) {
			t.Fatalf("%s became %s", brief(plain), brief(m))
		}
		if !apart(spanOf(b), spanOf(again), spanOf(m.Entries)) || !textsApart(m, b) {
			t.Fatalf("the bytes of %s share memory", brief(m))
		}
		keep := bytes.Clone(again)
		fill(b, 0x77)
		if !same(m, plain) || !slices.Equal(whole(m.Entries), all) || !bytes.Equal(again, keep) || !bytes.Equal(letter.Put(m), keep) {
			t.Fatalf("%s changed with its bytes", brief(plain))
		}
		fill(m.Entries, spoilt())
		if !bytes.Equal(again, keep) {
			t.Fatalf("the bytes changed with %s", brief(plain))
		}
	}
}

// TestTextsThatAreTurned: bytes don't lean on the memory of the texts that were handed in.
func TestTextsThatAreTurned(t *testing.T) {
	view := func(b []byte) string { return unsafe.String(unsafe.SliceData(b), len(b)) }
	data, first, last := []byte("piece"), []byte("x"), []byte("yz")
	for _, m := range []api.Letter{
		turned(install(), func(m *api.Letter) { m.Data = view(data) }),
		turned(appends(), func(m *api.Letter) { m.Entries[0].Data, m.Entries[3].Data = view(first), view(last) }),
	} {
		b := letter.Put(m)
		keep := bytes.Clone(b)
		clear(data)
		clear(first)
		clear(last)
		if !bytes.Equal(b, keep) {
			t.Errorf("% x became % x", keep, b)
		}
	}
}

// rawInputs are bytes that Get takes, and ones that it refuses with each error.
func rawInputs() [][]byte {
	b := written(appends())
	out := [][]byte{nil, {}, b[:len(b)-1], append(slices.Clip(b), 0), {0x80, 0}, written(batch(longBatch + 1)), written(piece(0, longPiece+1, longImage))}
	for _, m := range inputs() {
		out = append(out, written(m))
	}
	return out
}

// TestWhatGetIsHandedStays, with its spare room; the letter is nobody else's.
func TestWhatGetIsHandedStays(t *testing.T) {
	met := map[api.Errno]int{}
	for _, plain := range rawInputs() {
		want, why := wantGet(plain)
		b := spacious(plain, 0xaa)
		was := bytes.Clone(whole(b))
		m, e := letter.Get(b)
		again, f := letter.Get(b)
		met[e]++
		if e != why || f != why || !same(m, want) || !bytes.Equal(whole(b), was) {
			t.Fatalf("% x: %s, %d, % x", plain, brief(m), e, whole(b))
		}
		if !apart(spanOf(m.Entries), spanOf(again.Entries), spanOf(b)) || !textsApart(m, b) {
			t.Fatalf("%s shares memory", brief(m))
		}
		fill(m.Entries, spoilt())
		next, _ := letter.Get(b)
		if !bytes.Equal(whole(b), was) || !same(again, want) || !same(next, want) {
			t.Fatalf("% x: %s, then %s", plain, brief(want), brief(again))
		}
		fill(b, 0x77)
		if !same(again, want) || !same(next, want) {
			t.Fatalf("%s changed with its bytes", brief(want))
		}
	}
	if len(met) != 5 {
		t.Error(met)
	}
}

// TestAnAnswerMayBeGrown: what is put behind an answer's Entries, and behind bytes, touches no other answer.
func TestAnAnswerMayBeGrown(t *testing.T) {
	b := letter.Put(appends())
	for range 3 {
		m, _ := letter.Get(b)
		again, _ := letter.Get(b)
		_, _ = append(m.Entries, spoilt()), append(again.Entries, en(9, "more"))
		_ = append(b, 9, 9, 9)
		fill(m.Entries, spoilt())
		if !same(again, appends()) || !bytes.Equal(b, written(appends())) || !bytes.Equal(letter.Put(again), b) {
			t.Fatalf("%s, % x", brief(again), b)
		}
	}
}

// TestSpareRoomIsNotRead: what stands behind the length of a list is none of it.
func TestSpareRoomIsNotRead(t *testing.T) {
	for _, m := range inputs() {
		if b := letter.Put(roomy(m)); letter.Right(roomy(m)) != letter.Right(m) || !bytes.Equal(b, letter.Put(m)) {
			t.Fatalf("% x, not % x", b, letter.Put(m))
		}
	}
	all := []api.Entry{en(7, "a"), en(8, "b"), en(9, "c"), en(1, "not right"), of(9, 200)}
	for _, n := range []int{0, 1, 3, 2} {
		goes(t, turned(appends(), func(m *api.Letter) { m.Entries = all[:n] }))
	}
	for _, b := range rawInputs() {
		want, why := letter.Get(b)
		for _, x := range []byte{0, 2, 0x80, 0xaa} {
			if m, e := letter.Get(spacious(b, x)); e != why || !same(m, want) {
				t.Fatalf("%s, %d, not %s, %d", brief(m), e, brief(want), why)
			}
		}
	}
}

// TestNilAndEmptyAreTheSame: Entries without any are answered as none for each kind.
func TestNilAndEmptyAreTheSame(t *testing.T) {
	for _, m := range append(kinds(), batch(0)) {
		for _, l := range [][]api.Entry{nil, {}, make([]api.Entry, 0, 9), appends().Entries[:0]} {
			goes(t, turned(m, func(m *api.Letter) { m.Entries = l }))
		}
	}
	for _, b := range [][]byte{nil, {}, make([]byte, 0, 9)} {
		refused(t, b, api.ErrShort)
	}
}

// TestAnythingEnds hands in letters that are drawn without a thought to what they mean: what is right of them is written and read back, all else is not.
func TestAnythingEnds(t *testing.T) {
	draw := rand.New(rand.NewSource(208))
	for range 10000 {
		var m api.Letter
		wild(draw, reflect.ValueOf(&m).Elem())
		right := wrong(m) == ""
		if b := letter.Put(m); letter.Right(m) != right || (len(b) > 0) != right || right && !bytes.Equal(b, written(m)) {
			t.Fatalf("% x of %s", b, brief(m))
		}
		held(t, written(m))
	}
}

// wild sets all that v holds to what is drawn.
func wild(draw *rand.Rand, v reflect.Value) {
	switch v.Kind() {
	case reflect.Struct:
		for i := range v.NumField() {
			wild(draw, v.Field(i))
		}
	case reflect.Slice:
		n := draw.Intn(4)
		if draw.Intn(50) == 0 {
			n = 300
		}
		v.Set(reflect.MakeSlice(v.Type(), n, n))
		for i := range n {
			wild(draw, v.Index(i))
		}
	case reflect.Int:
		v.SetInt(int64(pick(draw, least, -1, 0, 0, 0, 1, 1, 2, 3, 4, 5, 6, 7, 9, 127, 128, longImage, topTerm, topTerm+1, most)))
	case reflect.String:
		v.SetString(pick(draw, "", "", "a", "\xff", strings.Repeat("z", 600), strings.Repeat("z", 2000)))
	case reflect.Bool:
		v.SetBool(draw.Intn(2) == 0)
	}
}
