package billing

import (
	"math/rand"
	"reflect"
	"slices"
	"strings"
	"testing"

	"impost/api"
)

// R1, R2, R4, R5

// roomy is a copy of v in which each list, within lists too, has spare room with something in it.
func roomy[T any](v T) T {
	out := reflect.New(reflect.TypeOf(v)).Elem()
	out.Set(spacious(reflect.ValueOf(v)))
	return out.Interface().(T)
}

func spacious(v reflect.Value) reflect.Value {
	switch v.Kind() {
	case reflect.Struct:
		out := reflect.New(v.Type()).Elem()
		for i := range v.NumField() {
			out.Field(i).Set(spacious(v.Field(i)))
		}
		return out
	case reflect.Slice:
		out := reflect.MakeSlice(v.Type(), v.Len()+3, v.Len()+3)
		for i := range out.Len() {
			if i < v.Len() {
				out.Index(i).Set(spacious(v.Index(i)))
			} else {
				spoil(out.Index(i))
			}
		}
		return out.Slice(0, v.Len())
	}
	return v
}

// spoil writes over all that v holds, lists with their spare room; where there is no list it makes one.
func spoil(v reflect.Value) {
	switch v.Kind() {
	case reflect.Struct:
		for i := range v.NumField() {
			spoil(v.Field(i))
		}
	case reflect.Slice:
		if v.Cap() == 0 {
			v.Set(reflect.MakeSlice(v.Type(), 2, 2))
		}
		all := v.Slice(0, v.Cap())
		for i := range all.Len() {
			spoil(all.Index(i))
		}
	case reflect.Int:
		v.SetInt(-77)
	case reflect.String:
		v.SetString("spoilt")
	case reflect.Bool:
		v.SetBool(!v.Bool())
	}
}

// whole is a copy of v in which each list has its spare room as a part of it.
func whole[T any](v T) T {
	out := reflect.New(reflect.TypeOf(v)).Elem()
	out.Set(unfolded(reflect.ValueOf(v)))
	return out.Interface().(T)
}

func unfolded(v reflect.Value) reflect.Value {
	switch v.Kind() {
	case reflect.Struct:
		out := reflect.New(v.Type()).Elem()
		for i := range v.NumField() {
			out.Field(i).Set(unfolded(v.Field(i)))
		}
		return out
	case reflect.Slice:
		all := v.Slice(0, v.Cap())
		out := reflect.MakeSlice(v.Type(), all.Len(), all.Len())
		for i := range all.Len() {
			out.Index(i).Set(unfolded(all.Index(i)))
		}
		return out
	}
	return v
}

// span is where a list's memory begins and ends.
type span struct{ from, to uintptr }

// spans are those of all lists that v holds, with their spare room and what is in it.
func spans(v reflect.Value) []span {
	var out []span
	switch v.Kind() {
	case reflect.Struct:
		for i := range v.NumField() {
			out = append(out, spans(v.Field(i))...)
		}
	case reflect.Slice:
		if v.Cap() == 0 {
			return nil
		}
		out = append(out, span{v.Pointer(), v.Pointer() + uintptr(v.Cap())*v.Type().Elem().Size()})
		all := v.Slice(0, v.Cap())
		for i := range all.Len() {
			out = append(out, spans(all.Index(i))...)
		}
	}
	return out
}

// apart tells whether no two of the lists share memory.
func apart(l []span) bool {
	slices.SortFunc(l, func(a, b span) int {
		if a.from < b.from {
			return -1
		}
		return 1
	})
	for i := 1; i < len(l); i++ {
		if l[i].from < l[i-1].to {
			return false
		}
	}
	return true
}

// calls are those that the state is tried with: each Kind, taken and refused, made again, stale, of no session, of no Kind.
func calls() []api.Call {
	var l []api.Call
	for kind := 0; kind <= 9; kind++ {
		open := noisy(kind)
		open.Series = "new"
		l = append(l, by(1, 1, noisy(kind)), by(1, 1, open), by(2, 5, noisy(kind)), by(2, 3, noisy(kind)), by(9, 1, noisy(kind)), by(2, 6, noisy(kind)))
	}
	return append(l, by(1, 1, cCredit("c", today(), "b", 1)), by(1, 1, cCredit("a", today(), "a", 1)), by(1, 1, cPost("b", today(), line(1, 1, "std"))), by(1, 1, cLevy("", today(), 0)), by(1, 1, cPost("d", today())))
}

// states are those that are tried: right ones, empty ones, full ones, and ones that aren't right.
func states() []api.State {
	l := []api.State{{}, New(), some(), plain(1), plain(39), plain(40), backed()}
	for _, x := range allWrong() {
		l = append(l, x.s)
	}
	wild := roomy(some())
	spoil(reflect.ValueOf(&wild).Elem())
	return append(l, wild)
}

// TestWhatIsHandedInStays: the state and the calls, with their spare room, and the lists within lists.
func TestWhatIsHandedInStays(t *testing.T) {
	for _, plain := range states() {
		for _, s := range []api.State{twin(plain), roomy(plain)} {
			was := whole(s)
			Right(s)
			for _, c := range roomy(calls()) {
				before := whole(c)
				got, _ := Apply(s, c)
				spoil(reflect.ValueOf(&got).Elem())
				if !reflect.DeepEqual(whole(s), was) || !reflect.DeepEqual(whole(c), before) {
					t.Fatalf("%v made %v of %v", c, whole(s), was)
				}
			}
			all := roomy(calls())
			before := whole(all)
			got, replies := Play(s, all...)
			spoil(reflect.ValueOf(&got).Elem())
			spoil(reflect.ValueOf(&replies).Elem())
			if !reflect.DeepEqual(whole(s), was) || !reflect.DeepEqual(whole(all), before) {
				t.Fatalf("Play made %v of %v", whole(s), was)
			}
		}
	}
}

// TestAnswersAreNew: no list of an answer shares memory with one that was handed in, nor with another one of it.
func TestAnswersAreNew(t *testing.T) {
	for _, plain := range states() {
		s := roomy(plain)
		for _, c := range roomy(calls()) {
			got, _ := Apply(s, c)
			answers := spans(reflect.ValueOf(got))
			if !apart(slices.Concat(answers, spans(reflect.ValueOf(s)), spans(reflect.ValueOf(c)))) {
				t.Fatalf("%v shares memory: %v", c, got)
			}
		}
		all := roomy(calls())
		got, replies := Play(s, all...)
		l := slices.Concat(spans(reflect.ValueOf(got)), spans(reflect.ValueOf(replies)), spans(reflect.ValueOf(s)), spans(reflect.ValueOf(all)))
		if !apart(l) {
			t.Fatalf("Play shares memory: %v", got)
		}
		none, _ := Play(s)
		if !apart(slices.Concat(spans(reflect.ValueOf(none)), spans(reflect.ValueOf(s)))) {
			t.Fatalf("Play of nothing shares memory: %v", none)
		}
	}
}

// TestAnswersOfOnePlayStay: a state that was answered goes on as it is, when what is made of it is spoilt, and the other way round.
func TestAnswersOfOnePlayStay(t *testing.T) {
	draw := rand.New(rand.NewSource(148))
	for range 300 {
		s := drawnState(draw)
		was := twin(s)
		next, _ := Apply(s, drawnCall(draw, s))
		keep := twin(next)
		spoil(reflect.ValueOf(&s).Elem())
		if !alike(next, keep) {
			t.Fatal("the state behind changed with the one ahead")
		}
		again, _ := Play(was)
		spoil(reflect.ValueOf(&next).Elem())
		if !alike(again, was) {
			t.Fatal("the state ahead changed with the one behind")
		}
	}
}

// TestSpareRoomIsNotRead: what stands behind the length of a list is none of it.
func TestSpareRoomIsNotRead(t *testing.T) {
	for _, s := range states() {
		if Right(roomy(s)) != Right(s) {
			t.Fatalf("Right of %v", s)
		}
		for _, c := range calls() {
			got, r := Apply(roomy(s), roomy(c))
			want, reply := Apply(s, c)
			if r != reply || !alike(got, want) {
				t.Fatalf("%v of %v: %v, %v", c, s, got, r)
			}
		}
	}
}

// TestNilAndEmptyAreTheSame: lists of the state, of its invoices, and lines.
func TestNilAndEmptyAreTheSame(t *testing.T) {
	for _, next := range []int{0, 1, 5, cap40} {
		none := api.State{Next: next}
		empty := api.State{Next: next, Table: []api.Rate{}, Series: []api.Series{}, Posted: []api.Posted{}, Book: []api.Balance{}, Sessions: []api.Session{}}
		if Right(none) != Right(empty) {
			t.Error(next)
		}
		for _, c := range calls() {
			a, r := Apply(none, c)
			b, reply := Apply(empty, c)
			if r != reply || !alike(a, b) {
				t.Errorf("%v: %v, %v, then %v, %v", c, a, r, b, reply)
			}
		}
	}
	for _, lines := range [][]api.Line{nil, {}, make([]api.Line, 0, 4)} {
		remembers(t, some(), cPost("a", today(), lines...), api.ErrArg)
	}
	a, b := plain(2), plain(2)
	a.Posted[0].Total.Parts, b.Posted[0].Total.Parts = nil, []api.Part{}
	if Right(a) || Right(b) {
		t.Error("right without parts")
	}
}

// TestRefusedStatesLookTheSame: what didn't change is told as it was handed in, lists that are none too.
func TestRefusedStatesLookTheSame(t *testing.T) {
	for _, s := range states() {
		for _, c := range []api.Call{by(9, 9, cAsk("a")), by(1, 0, cAsk("a")), {}, by(1, 1, api.Cmd{Kind: 9})} {
			if got, r := Apply(s, c); r.Why == api.OK || !reflect.DeepEqual(got, s) {
				t.Fatalf("%v: %v, %v", c, got, r)
			}
		}
	}
}

// TestAnythingEnds hands in states and calls that are drawn without a thought to what they mean.
func TestAnythingEnds(t *testing.T) {
	draw := rand.New(rand.NewSource(149))
	for range 20000 {
		s, c := api.State{}, api.Call{}
		wild(draw, reflect.ValueOf(&s).Elem())
		wild(draw, reflect.ValueOf(&c).Elem())
		if Right(s) != (len(broken(s)) == 0) {
			t.Fatalf("%v breaks %v", s, broken(s))
		}
		checked(t, s, c)
		checked(t, some(), c)
	}
}

// wild sets all that v holds to what is drawn.
func wild(draw *rand.Rand, v reflect.Value) {
	switch v.Kind() {
	case reflect.Struct:
		for i := range v.NumField() {
			wild(draw, v.Field(i))
		}
	case reflect.Slice:
		n := draw.Intn(4)
		if draw.Intn(50) == 0 {
			n = 50
		}
		v.Set(reflect.MakeSlice(v.Type(), n, n))
		for i := range n {
			wild(draw, v.Index(i))
		}
	case reflect.Int:
		v.SetInt(int64(pick(draw, far, -1, 0, 1, 1, 2, 3, 5, 8, 9, 2000, cap40, cap40+1, most)))
	case reflect.String:
		v.SetString(pick(draw, "", "a", "a", "b", "\xff", "net/a", "owed", strings.Repeat("z", 300)))
	case reflect.Bool:
		v.SetBool(draw.Intn(2) == 0)
	}
}
