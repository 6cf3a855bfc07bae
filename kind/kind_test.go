package kind

import (
	"math"
	"math/rand"
	"slices"
	"strings"
	"testing"

	"impost/api"
)

const (
	most = math.MaxInt
	far  = math.MinInt
)

var today = api.Date{Y: 2026, M: 11, D: 17}

// The values of each kind.
func none() api.Value           { return api.Value{} }
func num(n int) api.Value       { return api.Value{Kind: api.VInt, N: n} }
func txt(s string) api.Value    { return api.Value{Kind: api.VText, Text: s} }
func flg(n int) api.Value       { return api.Value{Kind: api.VFlag, N: n} }
func dat(d api.Date) api.Value  { return api.Value{Kind: api.VDate, Date: d} }
func lst(n int) api.Value       { return api.Value{Kind: api.VList, N: n} }
func all(l ...api.Value) values { return l }

type values = []api.Value

// sample is a thing made by FromInt to FromList, and what it is told flat.
type sample struct {
	thing Thing
	kind  int
	flat  values
}

// samples are things of every kind.
func samples() []sample {
	l := []sample{
		{Thing{}, api.VNone, all(none())},
		{FromFlag(false), api.VFlag, all(flg(0))},
		{FromFlag(true), api.VFlag, all(flg(1))},
		{FromList(), api.VList, all(lst(0))},
		{FromList(nil...), api.VList, all(lst(0))},
		{FromList([]Thing{}...), api.VList, all(lst(0))},
		{FromList(Thing{}), api.VList, all(lst(1), none())},
		{FromList(FromInt(5), FromText("a")), api.VList, all(lst(2), num(5), txt("a"))},
		{FromList(FromText("a"), FromInt(5)), api.VList, all(lst(2), txt("a"), num(5))},
		{FromList(FromList(), FromList()), api.VList, all(lst(2), lst(0), lst(0))},
		{FromList(FromList(FromList()), Thing{}), api.VList, all(lst(2), lst(1), lst(0), none())},
		{FromList(FromList(FromList(), Thing{})), api.VList, all(lst(1), lst(2), lst(0), none())},
		{FromList(FromFlag(true), FromList(FromDate(today)), FromText("")), api.VList, all(lst(3), flg(1), lst(1), dat(today), txt(""))},
	}
	for _, n := range []int{0, 1, -1, 2, 7, 1 << 32, most, most - 1, far, far + 1} {
		l = append(l, sample{FromInt(n), api.VInt, all(num(n))})
	}
	for _, s := range []string{"", "a", "0", "\x00", "\xff\xfe", "a\x80", "\u00fc", "a\x00b", strings.Repeat("long", 5000)} {
		l = append(l, sample{FromText(s), api.VText, all(txt(s))})
	}
	for _, d := range []api.Date{{}, today, {Y: 1, M: 1, D: 1}, {Y: 2026, M: 2, D: 30}, {Y: -1, M: 13, D: 32}, {Y: most, M: far, D: most}, {D: 1}, {M: 1}, {Y: 1}} {
		l = append(l, sample{FromDate(d), api.VDate, all(dat(d))})
	}
	return l
}

// nest is t within n lists.
func nest(t Thing, n int) Thing {
	for range n {
		t = FromList(t)
	}
	return t
}

// ints are the things of 0 to n-1.
func ints(n int) []Thing {
	var l []Thing
	for i := range n {
		l = append(l, FromInt(i))
	}
	return l
}

// wide is a list of n-1 ints: n values in all.
func wide(n int) values {
	l := all(lst(n - 1))
	for i := range n - 1 {
		l = append(l, num(i))
	}
	return l
}

// tower is n lists one in the other, the innermost holding inner, with so many values behind it and ahead of it at each floor.
func tower(n, ahead, behind int, inner ...api.Value) values {
	l := append(all(lst(len(inner))), inner...)
	for range n - 1 {
		floor := append(all(lst(ahead+1+behind)), slices.Repeat(all(num(1)), ahead)...)
		l = append(append(floor, l...), slices.Repeat(all(txt("x")), behind)...)
	}
	return l
}

// owed is what Of must say of l: a walk with the lists that wait for things on a stack, where the program goes down by calls.
func owed(l values) api.Errno {
	if len(l) > 200 {
		return api.ErrLong
	}
	stack := []int{1}
	for at := 0; ; at++ {
		for len(stack) > 0 && stack[len(stack)-1] == 0 {
			stack = stack[:len(stack)-1]
		}
		if len(stack) == 0 {
			if at < len(l) {
				return api.ErrTail
			}
			return api.OK
		}
		if at == len(l) {
			return api.ErrShort
		}
		v := l[at]
		stack[len(stack)-1]--
		// The outermost of the stack is no list.
		if v.Kind == api.VList && len(stack)-1 >= 16 {
			return api.ErrLong
		}
		if e := spoilt(v); e != api.OK {
			return e
		}
		if v.Kind == api.VList {
			stack = append(stack, v.N)
		}
	}
}

// spoilt is the chapter's sentence of one value that isn't too deep, field by field.
func spoilt(v api.Value) api.Errno {
	n, s, d := v.N != 0, v.Text != "", v.Date.Y != 0 || v.Date.M != 0 || v.Date.D != 0
	wrong := true
	switch v.Kind {
	default:
		return api.ErrKind
	case api.VNone:
		wrong = n || s || d
	case api.VInt:
		wrong = s || d
	case api.VText:
		wrong = n || d
	case api.VFlag:
		wrong = s || d || v.N < 0 || v.N > 1
	case api.VDate:
		wrong = n || s
	case api.VList:
		wrong = s || d || v.N < 0
	}
	if wrong {
		return api.ErrArg
	}
	return api.OK
}

// check holds Of(l) against e, and what it answers against l.
func check(t *testing.T, what string, l values, want api.Errno) {
	t.Helper()
	thing, e := Of(l)
	if e != want {
		t.Errorf("%s: %d, not %d", what, e, want)
		return
	}
	if e != api.OK {
		if thing.held != nil || thing.Kind() != api.VNone {
			t.Errorf("%s: a thing beside %d", what, e)
		}
		return
	}
	if m, f := thing.Flat(); f != api.OK || !slices.Equal(m, l) {
		t.Errorf("%s: Flat is %v, %d", what, m, f)
	}
}

// must runs f and tells what it panics with.
func must(f func()) (with any) {
	defer func() { with = recover() }()
	f()
	return nil
}

func TestRuns(t *testing.T) {
	l, e := Of(all(lst(2), num(5), txt("a")))
	if e != api.OK || !Same(l, FromList(FromInt(5), FromText("a"))) {
		t.Errorf("the list of 5 and a: %v, %d", l, e)
	}
	check(t, "a list that is cut", all(lst(2), num(5)), api.ErrShort)
	check(t, "a value behind", all(num(5), none()), api.ErrTail)
	check(t, "a flag of 2", all(flg(2)), api.ErrArg)
	if k := (Thing{}).Kind(); k != api.VNone {
		t.Errorf("the zero Thing: %d", k)
	}
	if n, is := FromText("a").Int(); n != 0 || is {
		t.Errorf("a text's Int: %d, %v", n, is)
	}
	if n, is := FromInt(7).Int(); n != 7 || !is {
		t.Errorf("an int's Int: %d, %v", n, is)
	}
	if w := must(func() { FromText("a").MustInt() }); w != any(api.Wrong{Asked: api.VInt, Was: api.VText}) {
		t.Errorf("a text's MustInt: %v", w)
	}
}

// P8.1

func TestKind(t *testing.T) {
	for i, s := range samples() {
		if k := s.thing.Kind(); k != s.kind {
			t.Errorf("%d: Kind %d of %v", i, k, s.flat)
		}
	}
	if api.VNone != 0 || api.VInt != 1 || api.VText != 2 || api.VFlag != 3 || api.VDate != 4 || api.VList != 5 {
		t.Error("the kinds")
	}
}

func TestZeroThing(t *testing.T) {
	var zero Thing
	if l, e := zero.Flat(); e != api.OK || !slices.Equal(l, all(none())) || zero.Kind() != api.VNone {
		t.Errorf("%v, %d", l, e)
	}
	read, e := Of(all(none()))
	if e != api.OK || read != zero || !Same(read, zero) || !Same(zero, zero) {
		t.Errorf("read: %v, %d", read, e)
	}
	if Same(zero, FromInt(0)) || Same(zero, FromText("")) || Same(zero, FromFlag(false)) || Same(zero, FromDate(api.Date{})) || Same(zero, FromList()) {
		t.Error("the same as the zero of a kind")
	}
}

func TestFromListKeepsNothing(t *testing.T) {
	back := append(make([]Thing, 0, 8), FromInt(1), FromList(FromInt(2)), FromText("x"))
	spare := back[:cap(back)]
	for i := len(back); i < len(spare); i++ {
		spare[i] = FromInt(-i)
	}
	made := FromList(back...)
	for i, v := range spare[len(back):] {
		if !Same(v, FromInt(-len(back)-i)) {
			t.Errorf("spare room %d was changed", i)
		}
	}
	if !Same(back[0], FromInt(1)) || !Same(back[1], FromList(FromInt(2))) || !Same(back[2], FromText("x")) {
		t.Error("what was handed in was changed")
	}
	outer := FromList(made, made)
	for i := range spare {
		spare[i] = FromText("turned")
	}
	one := all(lst(3), num(1), lst(1), num(2), txt("x"))
	if l, e := made.Flat(); e != api.OK || !slices.Equal(l, one) {
		t.Errorf("turned later: %v, %d", l, e)
	}
	if l, e := outer.Flat(); e != api.OK || !slices.Equal(l, slices.Concat(all(lst(2)), one, one)) {
		t.Errorf("turned later, within: %v, %d", l, e)
	}
}

// P8.2

func TestOfEachKind(t *testing.T) {
	for i, s := range samples() {
		thing, e := Of(s.flat)
		if e != api.OK || thing.Kind() != s.kind || !Same(thing, s.thing) {
			t.Errorf("%d: Of(%v) = %v, %d", i, s.flat, thing, e)
		}
		check(t, "a sample", s.flat, api.OK)
		check(t, "a sample with one behind", append(slices.Clone(s.flat), none()), api.ErrTail)
		check(t, "a sample twice", slices.Concat(s.flat, s.flat), api.ErrTail)
		check(t, "a sample cut", s.flat[:len(s.flat)-1], api.ErrShort)
		check(t, "a sample in a list", append(all(lst(1)), s.flat...), api.OK)
		check(t, "a sample in a list of two", append(all(lst(2)), s.flat...), api.ErrShort)
		check(t, "two samples in a list", slices.Concat(all(lst(2)), s.flat, s.flat), api.OK)
		check(t, "two samples in a list of one", slices.Concat(all(lst(1)), s.flat, s.flat), api.ErrTail)
	}
}

func TestOfNothing(t *testing.T) {
	check(t, "nil", nil, api.ErrShort)
	check(t, "empty", values{}, api.ErrShort)
	check(t, "empty, with room", append(values{}, num(1), num(2))[:0], api.ErrShort)
}

func TestOfFlags(t *testing.T) {
	for n, want := range map[int]api.Errno{0: api.OK, 1: api.OK, 2: api.ErrArg, -1: api.ErrArg, 256: api.ErrArg, 1 << 32: api.ErrArg, 1<<32 + 1: api.ErrArg, most: api.ErrArg, far: api.ErrArg} {
		check(t, "a flag", all(flg(n)), want)
		thing, e := Of(all(flg(n)))
		if f, is := thing.Flag(); e == api.OK && (!is || f != (n == 1)) {
			t.Errorf("flag %d: %v, %v", n, f, is)
		}
	}
}

func TestOfLists(t *testing.T) {
	for n, want := range map[int]api.Errno{-1: api.ErrArg, 0: api.ErrTail, 1: api.ErrTail, 2: api.OK, 3: api.ErrShort, 4: api.ErrShort, 200: api.ErrShort, 201: api.ErrShort, 1 << 32: api.ErrShort, 1<<32 + 2: api.ErrShort, 1 << 62: api.ErrShort, most: api.ErrShort, far: api.ErrArg, far + 2: api.ErrArg} {
		check(t, "a list ahead of two", all(lst(n), none(), num(3)), want)
		check(t, "a list of such", all(lst(1), lst(n), none(), num(3)), want)
	}
	for n, want := range map[int]api.Errno{-1: api.ErrArg, 0: api.OK, 1: api.ErrShort, most: api.ErrShort, far: api.ErrArg} {
		check(t, "a list ahead of nothing", all(lst(n)), want)
		check(t, "a list at the end of one", all(lst(2), none(), lst(n)), want)
	}
}

func TestOfKinds(t *testing.T) {
	for _, k := range []int{far, far + 1, far + 5, -256, -2, -1, 6, 7, 100, 256, 257, 1 << 32, 1<<32 + 1, 1<<32 + 5, most} {
		check(t, "bare", all(api.Value{Kind: k}), api.ErrKind)
		check(t, "with N", all(api.Value{Kind: k, N: 1}), api.ErrKind)
		check(t, "with all", all(api.Value{Kind: k, N: -1, Text: "x", Date: today}), api.ErrKind)
		check(t, "one behind", all(api.Value{Kind: k}, none()), api.ErrKind)
		check(t, "in a list", all(lst(1), api.Value{Kind: k}), api.ErrKind)
		check(t, "in a list that is cut", all(lst(9), num(1), api.Value{Kind: k}), api.ErrKind)
	}
	for k := api.VNone; k <= api.VList; k++ {
		check(t, "a known kind", all(api.Value{Kind: k}), api.OK)
	}
}

func TestOfFieldsThatAreNotNamed(t *testing.T) {
	fields := []func(v *api.Value){
		func(v *api.Value) { v.N = 1 }, func(v *api.Value) { v.N = -1 }, func(v *api.Value) { v.N = far }, func(v *api.Value) { v.N = 1 << 32 },
		func(v *api.Value) { v.Text = "x" }, func(v *api.Value) { v.Text = "\x00" }, func(v *api.Value) { v.Text = "\xff" },
		func(v *api.Value) { v.Date.Y = 1 }, func(v *api.Value) { v.Date.M = -1 }, func(v *api.Value) { v.Date.D = 1 << 32 },
	}
	group := []int{0, 0, 0, 0, 1, 1, 1, 2, 2, 2}
	own := map[int]int{api.VNone: -1, api.VInt: 0, api.VText: 1, api.VFlag: 0, api.VDate: 2, api.VList: 0}
	for i, set := range fields {
		for k, named := range own {
			v := api.Value{Kind: k}
			set(&v)
			if group[i] == named {
				continue
			}
			check(t, "alone", all(v), api.ErrArg)
			check(t, "in a list", all(lst(2), none(), v), api.ErrArg)
			check(t, "in a list that is cut", all(lst(4), none(), v), api.ErrArg)
			check(t, "with one behind", all(v, none()), api.ErrArg)
			full := map[int]api.Value{api.VInt: num(most), api.VText: txt("y"), api.VFlag: flg(1), api.VDate: dat(today), api.VList: lst(1)}[k]
			set(&full)
			if k != api.VNone {
				check(t, "beside what is named", all(full, none()), api.ErrArg)
			}
		}
	}
}

func TestOfManyValues(t *testing.T) {
	if api.MaxValues != 200 {
		t.Error("the limit")
	}
	for _, n := range []int{199, 200} {
		check(t, "one list", wide(n), api.OK)
		check(t, "one list, cut", wide(n + 1)[:n], api.ErrShort)
	}
	check(t, "one list", wide(201), api.ErrLong)
	check(t, "one list, far too long", wide(5000), api.ErrLong)
	in := slices.Concat(all(lst(2)), wide(100), wide(99))
	check(t, "several lists", in, api.OK)
	check(t, "several lists", slices.Concat(all(lst(2)), wide(100), wide(100)), api.ErrLong)
	check(t, "several lists", slices.Concat(all(lst(3)), wide(66), wide(66), wide(67)), api.OK)
	check(t, "several lists", slices.Concat(all(lst(3)), wide(66), wide(67), wide(67)), api.ErrLong)
	check(t, "one behind", append(wide(199), none()), api.ErrTail)
	check(t, "one behind, too many", append(wide(200), none()), api.ErrLong)
}

func TestOfTooManyAheadOfAllElse(t *testing.T) {
	for at := range 201 {
		for _, bad := range []api.Value{{Kind: 6}, {Kind: -1}, flg(2), lst(-1), {Kind: api.VText, N: 1}, lst(most), none()} {
			l := wide(201)
			l[at] = bad
			check(t, "201 values", l, api.ErrLong)
		}
	}
	check(t, "201 values behind a thing", slices.Repeat(all(none()), 201), api.ErrLong)
	check(t, "200 values behind a thing", slices.Repeat(all(none()), 200), api.ErrTail)
	check(t, "201 lists without things", slices.Repeat(all(lst(0)), 201), api.ErrLong)
	check(t, "lists that are cut", slices.Repeat(all(lst(2)), 201), api.ErrLong)
}

func TestOfDeepLists(t *testing.T) {
	if api.MaxDeep != 16 {
		t.Error("the limit")
	}
	inners := []values{nil, all(none()), all(num(7)), all(num(1), txt("a"), flg(1))}
	for n := 1; n <= 20; n++ {
		want := api.OK
		if n > 16 {
			want = api.ErrLong
		}
		for _, inner := range inners {
			for _, beside := range [][2]int{{0, 0}, {1, 0}, {0, 1}, {2, 3}} {
				check(t, "a tower", tower(n, beside[0], beside[1], inner...), want)
			}
		}
	}
	// Behind a list of the sixteenth floor stands another one, and behind that something else.
	for n, want := range map[int]api.Errno{1: api.ErrTail, 2: api.ErrTail, 3: api.OK, 4: api.ErrShort} {
		two := tower(15, 0, 0, lst(0), lst(1), num(3), txt("a"))
		two[14].N = n
		check(t, "two of the innermost", two, want)
	}
	three := tower(16, 0, 0, num(1), lst(0))
	check(t, "too deep behind a value", three, api.ErrLong)
	three[15].N = 1
	check(t, "the same, behind the thing", three, api.ErrTail)
	check(t, "deep ones side by side", append(append(all(lst(2)), tower(15, 0, 0)...), tower(15, 0, 0)...), api.OK)
	check(t, "one too deep, behind one that is not", append(append(all(lst(2)), tower(15, 0, 0)...), tower(16, 0, 0)...), api.ErrLong)
	check(t, "one too deep, ahead of one that is not", append(append(all(lst(2)), tower(16, 0, 0)...), tower(15, 0, 0)...), api.ErrLong)
}

func TestOfFirstFault(t *testing.T) {
	roof := tower(16, 0, 0, none())[:16]
	behind := func(l values, v ...api.Value) values { return append(slices.Clone(l), v...) }
	for _, v := range []api.Value{lst(0), lst(1), lst(-1), lst(far), lst(most), {Kind: api.VList, Text: "x"}, {Kind: api.VList, N: -1, Text: "x", Date: today}} {
		check(t, "too deep ahead of its other faults", behind(roof, v), api.ErrLong)
		check(t, "too deep ahead of what stands behind", behind(roof, v, none(), none()), api.ErrLong)
	}
	for _, k := range []int{-1, 6} {
		check(t, "no list is too deep", behind(roof, api.Value{Kind: k, N: -1}), api.ErrKind)
	}
	check(t, "no list is too deep", behind(roof, flg(2)), api.ErrArg)
	check(t, "no list is too deep", roof, api.ErrShort)
	faults := []struct {
		v api.Value
		e api.Errno
	}{{api.Value{Kind: 6}, api.ErrKind}, {api.Value{Kind: -1, N: 3, Text: "x"}, api.ErrKind}, {flg(2), api.ErrArg}, {lst(-1), api.ErrArg}, {api.Value{Kind: api.VNone, N: 1}, api.ErrArg}}
	for _, a := range faults {
		for _, b := range faults {
			check(t, "the first of two", all(lst(2), a.v, b.v), a.e)
			check(t, "the first of two, the other in a list", all(lst(2), a.v, lst(1), b.v), a.e)
			check(t, "the first of two, itself in a list", all(lst(2), lst(1), a.v, b.v), a.e)
			check(t, "the first of two, cut", all(lst(7), a.v, b.v), a.e)
			check(t, "the first, the thing ends with it", all(a.v, b.v), a.e)
		}
		check(t, "ahead of what is too deep", behind(all(lst(2), a.v), tower(17, 0, 0)...), a.e)
		check(t, "behind what is too deep", behind(behind(all(lst(2)), tower(17, 0, 0)...), a.v), api.ErrLong)
		check(t, "behind the thing", all(none(), a.v), api.ErrTail)
		check(t, "behind a list", all(lst(1), none(), a.v), api.ErrTail)
		check(t, "behind a list without things", all(lst(0), a.v), api.ErrTail)
		check(t, "a list of it misses the other", all(lst(2), lst(1), a.v), a.e)
	}
	check(t, "too deep behind the thing", behind(all(none()), tower(17, 0, 0)...), api.ErrTail)
}

// drawnValues is mostly right, with few kinds of faults; some are high, some are long.
func drawnValues(draw *rand.Rand) values {
	var l values
	kinds, width := 6+draw.Intn(9), 2+draw.Intn(3)
	need := 1
	for need > 0 && len(l) < 230 {
		need--
		switch draw.Intn(kinds) {
		case api.VNone:
			l = append(l, none())
		case api.VInt:
			l = append(l, num(draw.Intn(3)-1))
		case api.VText:
			l = append(l, txt("abc"[:draw.Intn(4)]))
		case api.VFlag:
			l = append(l, flg(draw.Intn(2)))
		case api.VDate:
			l = append(l, dat(api.Date{D: draw.Intn(3)}))
		default:
			n := draw.Intn(width)
			l = append(l, lst(n))
			need += n
		}
	}
	for range draw.Intn(3) - 1 {
		at := &l[draw.Intn(len(l))]
		switch draw.Intn(6) {
		case 0:
			at.Kind = draw.Intn(9) - 1
		case 1:
			at.N = draw.Intn(5) - 2
		case 2:
			at.Text = "z"
		case 3:
			at.Date.M = 1
		case 4:
			l = l[:draw.Intn(len(l))+1]
		default:
			l = append(l, none())
		}
	}
	return l
}

func TestOfDrawn(t *testing.T) {
	draw := rand.New(rand.NewSource(81))
	seen := map[api.Errno]int{}
	for range 60000 {
		l := drawnValues(draw)
		want := owed(l)
		seen[want]++
		check(t, "drawn", l, want)
		if t.Failed() {
			t.Fatalf("%v", l)
		}
	}
	for _, e := range []api.Errno{api.OK, api.ErrShort, api.ErrLong, api.ErrKind, api.ErrArg, api.ErrTail} {
		if seen[e] < 100 {
			t.Errorf("%d was drawn %d times", e, seen[e])
		}
	}
}

func TestOfKeepsNothing(t *testing.T) {
	flat := all(lst(3), num(1), lst(2), txt("a"), flg(1), dat(today))
	l := append(make(values, 0, 12), flat...)
	spare := l[:cap(l)]
	for i := len(l); i < len(spare); i++ {
		spare[i] = num(-i)
	}
	before := slices.Clone(spare)
	thing, e := Of(l)
	if e != api.OK || !slices.Equal(spare, before) {
		t.Errorf("changed: %v, %d", spare, e)
	}
	for i := range spare {
		spare[i] = txt("turned")
	}
	if m, e := thing.Flat(); e != api.OK || !slices.Equal(m, flat) {
		t.Errorf("turned later: %v, %d", m, e)
	}
	for cut := range flat {
		part := append(make(values, 0, 12), flat[:cut]...)
		room := part[:cap(part)]
		copy(room[cut:], flat[cut:])
		whole := slices.Clone(room)
		if _, e := Of(part); e != api.ErrShort || !slices.Equal(room, whole) {
			t.Errorf("%d values, the others in the spare room: %d", cut, e)
		}
	}
}

// P8.3

func TestFlatEachKind(t *testing.T) {
	for i, s := range samples() {
		if l, e := s.thing.Flat(); e != api.OK || !slices.Equal(l, s.flat) {
			t.Errorf("%d: %v, %d, not %v", i, l, e, s.flat)
		}
	}
}

func TestFlatManyValues(t *testing.T) {
	for n := 190; n < 210; n++ {
		l, e := FromList(ints(n - 1)...).Flat()
		if n <= 200 && (e != api.OK || !slices.Equal(l, wide(n))) || n > 200 && (e != api.ErrLong || l != nil) {
			t.Errorf("%d values: %d of them, %d", n, len(l), e)
		}
		halves := FromList(FromList(ints(n/2)...), FromList(ints(n-n/2-3)...))
		l, e = halves.Flat()
		if n <= 200 && (e != api.OK || len(l) != n) || n > 200 && (e != api.ErrLong || l != nil) {
			t.Errorf("%d values in two lists: %d of them, %d", n, len(l), e)
		}
		empty := FromList(slices.Repeat([]Thing{FromList()}, n-1)...)
		l, e = empty.Flat()
		if n <= 200 && (e != api.OK || len(l) != n) || n > 200 && (e != api.ErrLong || l != nil) {
			t.Errorf("%d lists: %d of them, %d", n, len(l), e)
		}
	}
}

func TestFlatDeepLists(t *testing.T) {
	for n := range 25 {
		for _, inner := range []Thing{{}, FromInt(1), FromText("x"), FromDate(today)} {
			l, e := nest(inner, n).Flat()
			if n <= 16 && (e != api.OK || len(l) != n+1) || n > 16 && (e != api.ErrLong || l != nil) {
				t.Errorf("%d lists: %v, %d", n, l, e)
			}
		}
		l, e := nest(FromList(), n).Flat()
		if n <= 15 && (e != api.OK || len(l) != n+1) || n > 15 && (e != api.ErrLong || l != nil) {
			t.Errorf("%d lists about one: %v, %d", n, l, e)
		}
		for _, t2 := range []Thing{FromList(FromInt(1), nest(Thing{}, n)), FromList(nest(Thing{}, n), FromInt(1)), FromList(FromList(), nest(Thing{}, n), FromList())} {
			if l, e := t2.Flat(); (e == api.OK) != (n <= 15) || (l == nil) != (n > 15) {
				t.Errorf("%d lists beside something: %v, %d", n, l, e)
			}
		}
	}
	for _, n := range []int{17, 1000, 1 << 16} {
		if l, e := nest(Thing{}, n).Flat(); l != nil || e != api.ErrLong {
			t.Errorf("%d lists: %v, %d", n, l, e)
		}
	}
}

// TestFlatOfListsThatHoldOneTwice would not end if all values were laid before they are counted.
func TestFlatOfListsThatHoldOneTwice(t *testing.T) {
	for _, n := range []int{1, 2, 6, 7, 16, 60, 1000} {
		for _, inner := range []Thing{{}, FromList()} {
			thing := inner
			for range n {
				thing = FromList(thing, thing)
			}
			l, e := thing.Flat()
			if n <= 6 && (e != api.OK || len(l) != 1<<(n+1)-1) || n > 6 && (e != api.ErrLong || l != nil) {
				t.Errorf("%d: %d values, %d", n, len(l), e)
			}
			if Same(thing, thing) != (n <= 6) {
				t.Errorf("%d: Same", n)
			}
		}
	}
}

func TestFlatIsNewMemory(t *testing.T) {
	thing := FromList(FromInt(1), FromList(FromText("a"), FromText("b")), FromDate(today), FromFlag(true))
	want := all(lst(4), num(1), lst(2), txt("a"), txt("b"), dat(today), flg(1))
	one, _ := thing.Flat()
	two, _ := thing.Flat()
	for i := range one[:cap(one)] {
		one[:cap(one)][i] = txt("turned")
	}
	if !slices.Equal(two, want) {
		t.Errorf("of another answer: %v", two)
	}
	if l, e := thing.Flat(); e != api.OK || !slices.Equal(l, want) {
		t.Errorf("of the thing: %v, %d", l, e)
	}
	for i, v := range two[:cap(two)][len(two):] {
		if v == txt("turned") {
			t.Errorf("spare room %d is shared", i)
		}
	}
}

func TestSame(t *testing.T) {
	for i, a := range samples() {
		for j, b := range samples() {
			want := slices.Equal(a.flat, b.flat)
			read, e := Of(b.flat)
			if Same(a.thing, b.thing) != want || e != api.OK || Same(a.thing, read) != want || Same(read, a.thing) != want {
				t.Errorf("%d and %d: not %v", i, j, want)
			}
		}
	}
	one := FromInt(1)
	for i, p := range [][2]Thing{
		{FromInt(1), FromFlag(true)}, {FromInt(0), FromFlag(false)}, {FromInt(0), FromList()}, {FromText("1"), FromInt(1)}, {FromText(""), FromDate(api.Date{})},
		{FromList(one), one}, {FromList(one), FromList(one, one)}, {FromList(FromList(one)), FromList(one)}, {FromList(one, FromInt(2)), FromList(FromInt(2), one)},
		{FromList(FromList(one), one), FromList(FromList(one, one))}, {FromText("a"), FromText("A")}, {FromText("a"), FromText("a\x00")}, {FromText("\xff"), FromText("\xfe")},
		{FromDate(api.Date{Y: 1}), FromDate(api.Date{M: 1})}, {FromDate(api.Date{M: 1}), FromDate(api.Date{D: 1})}, {FromInt(far), FromInt(most)}, {nest(one, 3), nest(one, 4)},
	} {
		if Same(p[0], p[1]) || Same(p[1], p[0]) {
			t.Errorf("pair %d is the same", i)
		}
		if !Same(p[0], p[0]) || !Same(p[1], p[1]) {
			t.Errorf("pair %d isn't the same as itself", i)
		}
	}
}

func TestSameOfThingsWithoutFlat(t *testing.T) {
	long, deep := FromList(ints(200)...), nest(Thing{}, 17)
	for i, a := range []Thing{long, deep, FromList(long), FromList(deep, Thing{})} {
		for _, b := range []Thing{a, long, deep, {}, FromList(), FromInt(1), FromList(ints(199)...), nest(Thing{}, 16)} {
			if Same(a, b) || Same(b, a) {
				t.Errorf("%d has a Flat", i)
			}
		}
	}
	if !Same(FromList(ints(199)...), FromList(ints(199)...)) || !Same(nest(Thing{}, 16), nest(Thing{}, 16)) {
		t.Error("those at the limits have one")
	}
}

// drawnThing is a thing of any kind with so many floors at most, each of fewer things than width, and its values and depth, as they are reckoned beside it.
func drawnThing(draw *rand.Rand, floors, width int) (Thing, values, int) {
	k := draw.Intn(11)
	if floors == 0 {
		k = draw.Intn(5)
	}
	switch k {
	case api.VNone:
		return Thing{}, all(none()), 0
	case api.VInt:
		n := draw.Intn(3) - 1
		return FromInt(n), all(num(n)), 0
	case api.VText:
		s := "\xffb"[:draw.Intn(3)]
		return FromText(s), all(txt(s)), 0
	case api.VFlag:
		n := draw.Intn(2)
		return FromFlag(n > 0), all(flg(n)), 0
	case api.VDate:
		d := api.Date{Y: draw.Intn(2), M: draw.Intn(2)}
		return FromDate(d), all(dat(d)), 0
	}
	var things []Thing
	var inner values
	deep := 0
	for range draw.Intn(width) {
		t, l, n := drawnThing(draw, floors-1, width)
		things, inner, deep = append(things, t), append(inner, l...), max(deep, n)
	}
	return FromList(things...), append(all(lst(len(things))), inner...), deep + 1
}

func TestFlatAndOfUndoEachOther(t *testing.T) {
	draw := rand.New(rand.NewSource(82))
	fits, long, deep := 0, 0, 0
	var last Thing
	var lastFlat values
	for range 8000 {
		shape := [][2]int{{22, 5}, {4, 12}, {6, 6}}[draw.Intn(3)]
		thing, want, floors := drawnThing(draw, shape[0], shape[1])
		l, e := thing.Flat()
		if floors > 16 || len(want) > 200 {
			if floors > 16 {
				deep++
			} else {
				long++
			}
			if e != api.ErrLong || l != nil || Same(thing, thing) {
				t.Fatalf("%d values, %d lists deep: %d", len(want), floors, e)
			}
			continue
		}
		fits++
		if e != api.OK || !slices.Equal(l, want) {
			t.Fatalf("%v, %d, not %v", l, e, want)
		}
		back, f := Of(l)
		if f != api.OK || !Same(back, thing) || back.Kind() != thing.Kind() {
			t.Fatalf("Of(%v) = %v, %d", l, back, f)
		}
		if lastFlat != nil && Same(thing, last) != slices.Equal(want, lastFlat) {
			t.Fatalf("Same of %v and %v", want, lastFlat)
		}
		last, lastFlat = thing, want
	}
	if fits < 1000 || long < 100 || deep < 100 {
		t.Errorf("%d that fit, %d too long, %d too deep", fits, long, deep)
	}
}

// P8.4

func TestTaken(t *testing.T) {
	for i, s := range samples() {
		v := s.flat[0]
		n, isInt := s.thing.Int()
		text, isText := s.thing.Text()
		f, isFlag := s.thing.Flag()
		d, isDate := s.thing.Date()
		l, isList := s.thing.List()
		if isInt != (s.kind == api.VInt) || isText != (s.kind == api.VText) || isFlag != (s.kind == api.VFlag) || isDate != (s.kind == api.VDate) || isList != (s.kind == api.VList) {
			t.Errorf("%d: %v, %v, %v, %v, %v of kind %d", i, isInt, isText, isFlag, isDate, isList, s.kind)
		}
		want := v
		if isFlag || isList {
			want.N = 0
		}
		if n != want.N || text != want.Text || d != want.Date || f != (isFlag && v.N == 1) {
			t.Errorf("%d: %d, %q, %v, %v of %v", i, n, text, d, f, v)
		}
		if isList && len(l) != v.N || !isList && l != nil {
			t.Errorf("%d: a list of %d of %v", i, len(l), v)
		}
		if isList && !Same(FromList(l...), s.thing) {
			t.Errorf("%d: other things", i)
		}
	}
}

func TestTakenBehindOf(t *testing.T) {
	thing, e := Of(all(lst(5), num(far), txt("\xff"), flg(1), dat(api.Date{D: -1}), lst(1), none()))
	l, is := thing.List()
	if e != api.OK || !is || len(l) != 5 {
		t.Fatalf("%v, %v, %d", l, is, e)
	}
	n, a := l[0].Int()
	s, b := l[1].Text()
	f, c := l[2].Flag()
	d, g := l[3].Date()
	in, h := l[4].List()
	if !a || !b || !c || !g || !h || n != far || s != "\xff" || !f || d != (api.Date{D: -1}) || len(in) != 1 || in[0].Kind() != api.VNone {
		t.Errorf("%d, %q, %v, %v, %v", n, s, f, d, in)
	}
}

func TestListIsNewMemory(t *testing.T) {
	read, _ := Of(all(lst(3), num(1), lst(1), num(2), txt("x")))
	for i, thing := range []Thing{FromList(FromInt(1), FromList(FromInt(2)), FromText("x")), read} {
		one, _ := thing.List()
		two, _ := thing.List()
		inner, _ := two[1].List()
		for j := range one[:cap(one)] {
			one[:cap(one)][j] = FromText("turned")
		}
		inner[0] = FromText("turned")
		_ = append(inner, FromText("behind"))
		if !Same(FromList(two...), thing) {
			t.Errorf("%d: of another answer", i)
		}
		if l, e := thing.Flat(); e != api.OK || !slices.Equal(l, all(lst(3), num(1), lst(1), num(2), txt("x"))) {
			t.Errorf("%d: of the thing: %v, %d", i, l, e)
		}
		_ = append(two, FromText("behind"))
		three, _ := thing.List()
		for _, v := range three[:cap(three)][len(three):] {
			if v.Kind() != api.VNone {
				t.Errorf("%d: spare room is shared", i)
			}
		}
	}
}

func TestListsOfThingsWithoutFlat(t *testing.T) {
	if l, is := FromList(ints(1000)...).List(); !is || len(l) != 1000 || l[999].MustInt() != 999 {
		t.Errorf("%d things, %v", len(l), is)
	}
	thing := nest(FromInt(3), 1000)
	for range 1000 {
		l, is := thing.List()
		if !is || len(l) != 1 || thing.Kind() != api.VList {
			t.Fatalf("%v, %v", l, is)
		}
		thing = l[0]
	}
	if thing.MustInt() != 3 {
		t.Error("the innermost")
	}
}

func TestMust(t *testing.T) {
	for i, s := range samples() {
		for asked, f := range map[int]func() bool{
			api.VInt:  func() bool { return s.thing.MustInt() == s.flat[0].N },
			api.VText: func() bool { return s.thing.MustText() == s.flat[0].Text },
			api.VDate: func() bool { return s.thing.MustDate() == s.flat[0].Date },
		} {
			fits := false
			with := must(func() { fits = f() })
			if s.kind == asked {
				if with != nil || !fits {
					t.Errorf("%d, asked for %d: %v, %v", i, asked, fits, with)
				}
			} else if with != any(api.Wrong{Asked: asked, Was: s.kind}) {
				t.Errorf("%d, asked for %d: panics with %v", i, asked, with)
			}
		}
	}
}
