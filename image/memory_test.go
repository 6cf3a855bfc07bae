package image_test

import (
	"bytes"
	"math/rand"
	"reflect"
	"slices"
	"strings"
	"testing"

	"impost/api"
	"impost/billing"
	"impost/image"
)

// R1, R2, R4, R5

// roomy is a copy of v in which each list, within lists too, has spare room with something in it.
func roomy[T any](v T) T {
	out := reflect.New(reflect.TypeOf(v)).Elem()
	out.Set(spacious(reflect.ValueOf(v)))
	return out.Interface().(T)
}

func spacious(v reflect.Value) reflect.Value {
	switch v.Kind() {
	case reflect.Struct:
		out := reflect.New(v.Type()).Elem()
		for i := range v.NumField() {
			out.Field(i).Set(spacious(v.Field(i)))
		}
		return out
	case reflect.Slice:
		out := reflect.MakeSlice(v.Type(), v.Len()+3, v.Len()+3)
		for i := range out.Len() {
			if i < v.Len() {
				out.Index(i).Set(spacious(v.Index(i)))
			} else {
				spoil(out.Index(i))
			}
		}
		return out.Slice(0, v.Len())
	}
	return v
}

// spoil writes over all that v holds, lists with their spare room; where there is no list it makes one.
func spoil(v reflect.Value) {
	switch v.Kind() {
	case reflect.Struct:
		for i := range v.NumField() {
			spoil(v.Field(i))
		}
	case reflect.Slice:
		if v.Cap() == 0 {
			v.Set(reflect.MakeSlice(v.Type(), 2, 2))
		}
		all := v.Slice(0, v.Cap())
		for i := range all.Len() {
			spoil(all.Index(i))
		}
	case reflect.Int:
		v.SetInt(-77)
	case reflect.Uint8:
		v.SetUint(0x77)
	case reflect.String:
		v.SetString("spoilt")
	case reflect.Bool:
		v.SetBool(!v.Bool())
	}
}

// whole is a copy of v in which each list has its spare room as a part of it.
func whole[T any](v T) T {
	out := reflect.New(reflect.TypeOf(v)).Elem()
	out.Set(unfolded(reflect.ValueOf(v)))
	return out.Interface().(T)
}

func unfolded(v reflect.Value) reflect.Value {
	switch v.Kind() {
	case reflect.Struct:
		out := reflect.New(v.Type()).Elem()
		for i := range v.NumField() {
			out.Field(i).Set(unfolded(v.Field(i)))
		}
		return out
	case reflect.Slice:
		all := v.Slice(0, v.Cap())
		out := reflect.MakeSlice(v.Type(), all.Len(), all.Len())
		for i := range all.Len() {
			out.Index(i).Set(unfolded(all.Index(i)))
		}
		return out
	}
	return v
}

// span is where a list's memory begins and ends.
type span struct{ from, to uintptr }

// spans are those of all lists that v holds, with their spare room and what is in it.
func spans(v reflect.Value) []span {
	var out []span
	switch v.Kind() {
	case reflect.Struct:
		for i := range v.NumField() {
			out = append(out, spans(v.Field(i))...)
		}
	case reflect.Slice:
		if v.Cap() == 0 {
			return nil
		}
		out = append(out, span{v.Pointer(), v.Pointer() + uintptr(v.Cap())*v.Type().Elem().Size()})
		all := v.Slice(0, v.Cap())
		for i := range all.Len() {
			out = append(out, spans(all.Index(i))...)
		}
	}
	return out
}

// apart tells whether no two of all lists that the values hold share memory.
func apart(values ...any) bool {
	var l []span
	for _, v := range values {
		l = append(l, spans(reflect.ValueOf(v))...)
	}
	slices.SortFunc(l, func(a, b span) int {
		if a.from < b.from {
			return -1
		}
		return 1
	})
	for i := 1; i < len(l); i++ {
		if l[i].from < l[i-1].to {
			return false
		}
	}
	return true
}

// states are right ones, and ones that aren't right.
func states(t *testing.T) []api.State {
	out := append(samples(t), api.State{}, right(t, wide(maxRates, maxSeries, maxPosted, maxParts, maxSessions)))
	for _, x := range notRight() {
		out = append(out, x.s)
	}
	wild := roomy(out[1])
	spoil(reflect.ValueOf(&wild).Elem())
	return append(out, wild)
}

// TestWhatPutIsHandedStays, with its spare room, and the lists within its lists; and what it answers is nobody else's.
func TestWhatPutIsHandedStays(t *testing.T) {
	for _, plain := range states(t) {
		for _, s := range []api.State{twin(plain), roomy(plain)} {
			was := whole(s)
			b := image.Put(s)
			if !reflect.DeepEqual(whole(s), was) {
				t.Fatalf("%v became %v", was, whole(s))
			}
			again := image.Put(s)
			if !apart(b, again, s) {
				t.Fatalf("the images of %v share memory", s)
			}
			keep := bytes.Clone(again)
			spoil(reflect.ValueOf(&b).Elem())
			if !reflect.DeepEqual(whole(s), was) || !bytes.Equal(again, keep) || !bytes.Equal(image.Put(s), keep) {
				t.Fatalf("%v changed with its image", s)
			}
			spoil(reflect.ValueOf(&s).Elem())
			if !bytes.Equal(again, keep) {
				t.Fatalf("the image changed with %v", s)
			}
		}
	}
}

// inputs are bytes that Get takes, and ones that it refuses with each error.
func inputs(t *testing.T) [][]byte {
	_, hand := byHand()
	out := [][]byte{nil, {}, hand[:len(hand)-1], append(slices.Clip(hand), 0), {50}, {0x80, 0}, {0, 0, 0, 0, 0}}
	for _, s := range states(t) {
		out = append(out, written(s))
	}
	return out
}

// TestWhatGetIsHandedStays, with its spare room; the state is nobody else's, and no two of its lists share memory.
func TestWhatGetIsHandedStays(t *testing.T) {
	for _, plain := range inputs(t) {
		for _, b := range [][]byte{bytes.Clone(plain), roomy(plain)} {
			was := whole(b)
			s, e := image.Get(b)
			if !bytes.Equal(whole(b), was) {
				t.Fatalf("% x became % x", was, whole(b))
			}
			again, _ := image.Get(b)
			if !apart(s, again, b) {
				t.Fatalf("%v shares memory", s)
			}
			keep := twin(again)
			spoil(reflect.ValueOf(&s).Elem())
			next, f := image.Get(b)
			if !bytes.Equal(whole(b), was) || !same(again, keep) || e != f || !same(next, keep) {
				t.Fatalf("% x: %v, %v, then %v, %v", b, keep, e, next, f)
			}
			spoil(reflect.ValueOf(&b).Elem())
			if !same(again, keep) {
				t.Fatalf("%v changed with its image", keep)
			}
		}
	}
}

// TestSpareRoomIsNotRead: what stands behind the length of a list is none of it.
func TestSpareRoomIsNotRead(t *testing.T) {
	for _, s := range states(t) {
		if b, want := image.Put(roomy(s)), image.Put(s); !bytes.Equal(b, want) {
			t.Fatalf("% x, not % x", b, want)
		}
	}
	for _, b := range inputs(t) {
		want, why := image.Get(b)
		if s, e := image.Get(roomy(b)); e != why || !same(s, want) {
			t.Fatalf("%v, %v, not %v, %v", s, e, want, why)
		}
	}
}

func TestNilAndEmptyAreTheSame(t *testing.T) {
	for _, next := range []int{0, 1, 5, cap40} {
		empty := api.State{Next: next, Table: []api.Rate{}, Series: []api.Series{}, Posted: []api.Posted{}, Book: []api.Balance{}, Sessions: []api.Session{}}
		if b, want := image.Put(empty), image.Put(api.State{Next: next}); !bytes.Equal(b, want) || (len(b) == 0) != (next == 0) {
			t.Errorf("% x, not % x", b, want)
		}
	}
	for _, b := range [][]byte{nil, {}, make([]byte, 0, 9)} {
		refused(t, b, api.ErrShort)
	}
	for _, parts := range [][]api.Part{nil, {}} {
		s := edited(func(s *api.State) { s.Posted[1].Total.Parts = parts })
		if b := image.Put(s); len(b) > 0 {
			t.Errorf("% x", b)
		}
	}
}

// TestAnythingEnds hands in states that are drawn without a thought to what they mean: what is right of them is written and read back, all else is not written, nor read.
func TestAnythingEnds(t *testing.T) {
	draw := rand.New(rand.NewSource(157))
	for range 20000 {
		var s api.State
		wild(draw, reflect.ValueOf(&s).Elem())
		b := image.Put(s)
		if (len(b) > 0) != billing.Right(s) || len(b) > 0 && !bytes.Equal(b, written(s)) {
			t.Fatalf("% x of %v", b, s)
		}
		held(t, written(s))
	}
}

// wild sets all that v holds to what is drawn.
func wild(draw *rand.Rand, v reflect.Value) {
	switch v.Kind() {
	case reflect.Struct:
		for i := range v.NumField() {
			wild(draw, v.Field(i))
		}
	case reflect.Slice:
		n := draw.Intn(4)
		if draw.Intn(50) == 0 {
			n = 50
		}
		v.Set(reflect.MakeSlice(v.Type(), n, n))
		for i := range n {
			wild(draw, v.Index(i))
		}
	case reflect.Int:
		v.SetInt(int64(pick(draw, far, -1, 0, 1, 1, 2, 3, 5, 8, 9, 2000, cap40, cap40+1, most)))
	case reflect.String:
		v.SetString(pick(draw, "", "a", "a", "b", "\xff", "net/a", "owed", strings.Repeat("z", 300)))
	case reflect.Bool:
		v.SetBool(draw.Intn(2) == 0)
	}
}
