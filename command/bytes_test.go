package command

import (
	"encoding/binary"
	"math/rand"
	"slices"
	"strings"
	"testing"

	"impost/api"
)

// P9.2

func TestPutEachKind(t *testing.T) {
	for _, c := range samples() {
		put(t, "sample", c)
	}
}

// TestPutByHand says the order of each kind's fields once more, without the model.
func TestPutByHand(t *testing.T) {
	for k, want := range map[int]string{
		api.COpen:   "\x02\x02s\x16",
		api.CShut:   "\x04\x02s",
		api.CLevy:   "\x06\x02c\x02\x04\x06\x18",
		api.CPost:   "\x08\x02s\x08\x0a\x0c\x04\x02t\x02k\x1a\x1c\x02u\x02l\x1e\x20",
		api.CCredit: "\x0a\x02s\x08\x0a\x0c\x02o\x22",
		api.CJoin:   "\x0c",
		api.CLeave:  "\x0e\x24",
		api.CAsk:    "\x10\x02s",
	} {
		c := everyField(k)
		if b, e := of(t, c).Put(); e != api.OK || string(b) != want {
			t.Errorf("kind %d: %x, %d, not %x", k, b, e, want)
		}
		v, e := Get([]byte(want))
		if flat, ok := v.Flat(); e != api.OK || !ok || !same(flat, named(c)) {
			t.Errorf("kind %d: %v, %d", k, flat, e)
		}
	}
}

// texts are what puts s into each text that a kind names, one by one.
var texts = []struct {
	name  string
	kinds []int
	turn  func(c *api.Cmd, s string)
}{
	{"Series", []int{api.COpen, api.CShut, api.CPost, api.CCredit, api.CAsk}, func(c *api.Cmd, s string) { c.Series = s }},
	{"Row.Category", []int{api.CLevy}, func(c *api.Cmd, s string) { c.Row.Category = s }},
	{"Of.Series", []int{api.CCredit}, func(c *api.Cmd, s string) { c.Of.Series = s }},
	{"the first line's Text", []int{api.CPost}, func(c *api.Cmd, s string) { c.Lines = []api.Line{{Text: s}, {}} }},
	{"the first line's Category", []int{api.CPost}, func(c *api.Cmd, s string) { c.Lines = []api.Line{{Category: s}, {}} }},
	{"the last line's Text", []int{api.CPost}, func(c *api.Cmd, s string) { c.Lines = append(make([]api.Line, 11), api.Line{Text: s}) }},
	{"the last line's Category", []int{api.CPost}, func(c *api.Cmd, s string) { c.Lines = append(make([]api.Line, 11), api.Line{Category: s}) }},
}

func TestLengthsOfTexts(t *testing.T) {
	for _, x := range texts {
		for _, k := range x.kinds {
			for _, size := range []int{0, 1, 63, 64, 65, 66, 127, 128, 200, 1024, 1 << 16} {
				for _, s := range []string{"x", "\xff", "\x00"} {
					c := named(everyField(k))
					x.turn(&c, strings.Repeat(s, size))
					b, e := put(t, x.name, c)
					if (e == api.OK) != (size <= 64) || e != api.OK && e != api.ErrLong {
						t.Errorf("kind %d, %s of %d bytes: %d", k, x.name, size, e)
					}
					if e == api.OK {
						get(t, x.name, b, api.OK)
					} else if b := laid(tokens(c)...); len(b) <= 1024 {
						get(t, x.name, b, api.ErrLong)
					}
				}
			}
		}
	}
}

func TestNumbersOfLines(t *testing.T) {
	for n := range 40 {
		for _, line := range []api.Line{{}, {Text: "a", Category: "b", Count: 1, Price: -1}, {Count: most, Price: far}} {
			c := api.Cmd{Kind: api.CPost, Series: "a", Day: today, Lines: slices.Repeat([]api.Line{line}, n)}
			b, e := put(t, "lines", c)
			if (e == api.OK) != (n <= 12) || e != api.OK && e != api.ErrLong {
				t.Errorf("%d lines: %d", n, e)
			}
			if e == api.OK {
				get(t, "lines", b, api.OK)
			} else {
				get(t, "lines", laid(tokens(c)...), api.ErrLong)
			}
		}
	}
	if b, e := of(t, api.Cmd{Kind: api.CPost, Lines: make([]api.Line, 1<<20)}).Put(); b != nil || e != api.ErrLong {
		t.Errorf("very many lines: %d bytes, %d", len(b), e)
	}
}

// sized is a post of that many bytes, with texts and lines that are not too long.
func sized(t *testing.T, size, lines int, number int) api.Cmd {
	t.Helper()
	c := api.Cmd{Kind: api.CPost, Day: today, Lines: slices.Repeat([]api.Line{{Count: number, Price: number}}, lines)}
	places := []*string{&c.Series}
	for i := range c.Lines {
		places = append(places, &c.Lines[i].Text, &c.Lines[i].Category)
	}
	for _, p := range places {
		room := size - len(laid(tokens(c)...))
		*p = strings.Repeat("y", max(0, min(room, 63)))
	}
	if n := len(laid(tokens(c)...)); n != size {
		t.Fatalf("%d bytes, not %d", n, size)
	}
	return c
}

func TestBytesAtMost(t *testing.T) {
	for _, shape := range [][2]int{{8, 1}, {8, 1 << 40}, {9, -1}, {12, 0}, {12, most}, {12, far}} {
		for size := 1000; size <= 1040; size++ {
			c := sized(t, size, shape[0], shape[1])
			b, e := put(t, "sized", c)
			want := api.OK
			if size > 1024 {
				want = api.ErrLong
			}
			if e != want || e == api.OK && len(b) != size {
				t.Errorf("%d lines, %d bytes: %d, %d", shape[0], size, len(b), e)
			}
			whole := laid(tokens(c)...)
			get(t, "sized", whole, want)
			if v, f := Get(whole); f == api.OK {
				if flat, ok := v.Flat(); !ok || !same(flat, c) {
					t.Errorf("%d bytes: %v", size, flat)
				}
			}
		}
	}
}

func TestPutIsNewMemory(t *testing.T) {
	for _, c := range samples() {
		v := of(t, c)
		one, e := v.Put()
		two, _ := v.Put()
		if e != api.OK {
			continue
		}
		want := slices.Clone(two)
		room := one[:cap(one)]
		for i := range room {
			room[i] ^= 0xff
		}
		again, _ := v.Put()
		if !slices.Equal(two, want) || !slices.Equal(again, want) {
			t.Fatalf("kind %d: %x, %x, not %x", c.Kind, two, again, want)
		}
		before := slices.Clone(two[:cap(two)])
		_ = append(again, 1, 2, 3, 4, 5, 6, 7, 8)
		if !slices.Equal(two[:cap(two)], before) {
			t.Fatalf("kind %d: spare room is shared", c.Kind)
		}
		if flat, ok := v.Flat(); !ok || !same(flat, c) {
			t.Fatalf("kind %d: %v", c.Kind, flat)
		}
	}
}

// P9.3

// short are commands of each kind that fit, and few bytes long.
func short() []api.Cmd {
	var l []api.Cmd
	for _, c := range samples() {
		if b, e := owedPut(c); e == api.OK && len(b) < 200 {
			l = append(l, c)
		}
	}
	return l
}

func TestGetCutAndLengthened(t *testing.T) {
	for _, c := range short() {
		b := laid(tokens(c)...)
		get(t, "whole", b, api.OK)
		for n := range b {
			get(t, "cut", b[:n:n], api.ErrShort)
			get(t, "cut, the rest in the spare room", b[:n], api.ErrShort)
		}
		for _, tail := range []string{"\x00", "\x01", "\x0c", "\x80", "\xff", "\x00\x00", "\x80\x00", string(b)} {
			get(t, "lengthened", append(slices.Clone(b), tail...), api.ErrTail)
		}
	}
	long := laid(tokens(sized(t, 1023, 9, 1))...)
	get(t, "a byte behind, just as many as may be", append(slices.Clone(long), 0), api.ErrTail)
	get(t, "two bytes behind, one too many", append(slices.Clone(long), 0, 0), api.ErrLong)
}

func TestGetNothing(t *testing.T) {
	get(t, "nil", nil, api.ErrShort)
	get(t, "no bytes", []byte{}, api.ErrShort)
	get(t, "no bytes but spare room", []byte{0x0c}[:0], api.ErrShort)
}

func TestGetNoKind(t *testing.T) {
	for k := -300; k <= 300; k++ {
		for _, behind := range []string{"", "\x00", "\x80", "\x80\x00", "\x02a\x0a", strings.Repeat("\x00", 60), strings.Repeat("\xff", 60)} {
			b := append(laid(num(k)), behind...)
			if k < 1 || k > 8 {
				get(t, "no kind", b, api.ErrKind)
			} else {
				_, e := owedGet(b)
				get(t, "a kind", b, e)
			}
		}
	}
	for _, k := range []int{most, most - 1, far, far + 1, 1 << 40, 1<<8 + 1, 1<<16 + 2, 1<<32 + 6, -1 << 32, 1<<62 + 6, far + 6} {
		get(t, "no kind", laid(num(k)), api.ErrKind)
		get(t, "no kind", append(laid(num(k)), 0x80, 0), api.ErrKind)
	}
}

// bad are bytes where a number can't be read, whatever stands behind.
var bad = []string{"\x80\x00", "\x82\x00", "\x8c\x80\x00", "\xff\xff\xff\xff\xff\xff\xff\xff\xff\x02", "\xff\xff\xff\xff\xff\xff\xff\xff\xff\x80\x01", "\x8c\x80\x80\x80\x80\x80\x80\x80\x80\x80\x00", "\x80\x80\x80\x80\x80\x80\x80\x80\x80\x00"}

// behinds are what may stand behind a fault without being told of: nothing, what is right, and other faults.
var behinds = []string{"", "\x00", "\x80", "\x80\x00", "\x01", "\x82\x01", strings.Repeat("\x00", 80), strings.Repeat("\xff", 80), strings.Repeat("\x02a", 40)}

func TestGetKindNotInForm(t *testing.T) {
	for _, head := range bad {
		for _, behind := range behinds {
			get(t, "a kind not in form", []byte(head+behind), api.ErrForm)
		}
	}
	for n := 1; n < 10; n++ {
		get(t, "a kind that is cut", []byte(strings.Repeat("\x80", n)), api.ErrShort)
		get(t, "a kind that is cut", []byte(strings.Repeat("\xff", n)), api.ErrShort)
	}
	// Forms of kinds that are longer than they must be are no kinds.
	for k := api.COpen; k <= api.CAsk; k++ {
		get(t, "a longer form", []byte{byte(2*k) | 128, 0}, api.ErrForm)
	}
}

// fault is what a field's bytes may be that is refused.
type fault struct {
	bytes string
	e     api.Errno
}

// faults of a number, and of a text or a count, that hang on nothing behind them.
func faultsOf(sign rune) []fault {
	var l []fault
	for _, b := range bad {
		l = append(l, fault{b, api.ErrForm})
	}
	top := map[rune]int{'t': 64, 'l': 12}[sign]
	if sign == 'n' {
		return l
	}
	for _, n := range []int{-1, -2, -64, top + 1, top + 2, 1000, 1025, 1 << 16, 1 << 40, most, far} {
		l = append(l, fault{string(laid(num(n))), api.ErrLong})
	}
	return l
}

// TestGetFirstFault puts a fault into each field of each kind, with the fields ahead of it right.
func TestGetFirstFault(t *testing.T) {
	for k := api.COpen; k <= api.CAsk; k++ {
		ahead, counted := laid(num(k)), 0
		signs := shapes[k]
		if k == api.CPost {
			signs += strings.Repeat("ttnn", 3)
		}
		for _, sign := range signs {
			for _, f := range faultsOf(sign) {
				for _, behind := range behinds {
					b := append(append(slices.Clone(ahead), f.bytes...), behind...)
					want := f.e
					// The count of lines, ahead of this field, asks for a byte for each of them.
					if counted > 0 && len(b) < counted+3 {
						want = api.ErrShort
					}
					get(t, "a fault", b, want)
				}
			}
			switch sign {
			case 't':
				ahead = append(ahead, "\x02a"...)
			case 'n':
				ahead = append(ahead, 6)
			case 'l':
				ahead = append(ahead, laid(num(3))...)
				counted = len(ahead)
			}
		}
		get(t, "all right", ahead, api.OK)
	}
}

func TestGetCounts(t *testing.T) {
	head := laid(num(api.CPost), txt(""), num(0), num(0), num(0))
	for n := range 30 {
		for room := range 60 {
			b := append(append(slices.Clone(head), laid(num(n))...), make([]byte, room)...)
			want := api.ErrTail
			switch {
			case n > 12:
				want = api.ErrLong
			case room < 4*n:
				want = api.ErrShort
			case room == 4*n:
				want = api.OK
			}
			get(t, "lines of zeroes", b, want)
		}
	}
	for n := 2; n <= 12; n++ {
		for room := 2; room < 20; room++ {
			b := append(append(slices.Clone(head), laid(num(n))...), 0x80, 0)
			b = append(b, make([]byte, room-2)...)
			want := api.ErrForm
			if room < n {
				want = api.ErrShort
			}
			get(t, "more lines than bytes ahead of the lines' faults", b, want)
		}
	}
}

func TestGetTextsTooShort(t *testing.T) {
	for k := api.COpen; k <= api.CAsk; k++ {
		if !strings.HasPrefix(shapes[k], "t") {
			continue
		}
		for n := 1; n <= 64; n++ {
			head := laid(num(k), num(n))
			get(t, "a text that is cut", append(slices.Clone(head), strings.Repeat("\x80", n-1)...), api.ErrShort)
			whole := append(slices.Clone(head), strings.Repeat("\x80", n)...)
			_, e := owedGet(whole)
			get(t, "a text, and nothing behind it", whole, e)
			if fits := k == api.CShut || k == api.CAsk; fits != (e == api.OK) {
				t.Errorf("kind %d, a text of %d bytes: %d", k, n, e)
			}
		}
	}
}

func TestGetTooManyBytes(t *testing.T) {
	for _, head := range append([]string{"", "\x0c", "\x12", "\x80", "\x00", "\x01", "\x10\x02a", "\x10\x84\x01", "\x08\x00\x00\x00\x00\x1a"}, bad...) {
		for _, fill := range []string{"\x00", "\x80", "\xff", "a"} {
			for _, size := range []int{1023, 1024, 1025, 1026, 2048, 1 << 16} {
				b := []byte(head + strings.Repeat(fill, size-len(head)))
				if size > 1024 {
					get(t, "too many bytes", b, api.ErrLong)
					continue
				}
				_, e := owedGet(b)
				get(t, "as many bytes as may be", b, e)
				if head == "\x0c" && e != api.ErrTail || head == "\x12" && e != api.ErrKind {
					t.Errorf("%d bytes: %d", size, e)
				}
			}
		}
	}
}

func TestGetExtremes(t *testing.T) {
	for k := api.COpen; k <= api.CAsk; k++ {
		for _, n := range []int{0, -1, 1, most, far, most - 1, far + 1} {
			for _, s := range []string{"", "\x00", "\xff\xfe\xfd", "\xc3", full} {
				d := api.Date{Y: n, M: n ^ 1, D: -n}
				c := named(api.Cmd{Kind: k, Series: s, Limit: n, Row: api.Rate{Category: s, From: d, Bp: n}, Day: d, Lines: []api.Line{{Text: s, Category: s, Count: n, Price: n ^ 2}}, Of: api.Ref{Series: s, Number: n}, Session: n})
				v, e := Get(laid(tokens(c)...))
				if flat, ok := v.Flat(); e != api.OK || !ok || !same(flat, c) {
					t.Errorf("%v: %v, %d", c, flat, e)
				}
			}
		}
	}
}

func TestGetKeepsNothing(t *testing.T) {
	for _, c := range short() {
		b := append(make([]byte, 0, 400), laid(tokens(c)...)...)
		room := b[:cap(b)]
		for i := len(b); i < len(room); i++ {
			room[i] = byte(i)
		}
		before := slices.Clone(room)
		v, e := Get(b)
		if e != api.OK || !slices.Equal(room, before) {
			t.Fatalf("kind %d: changed, %d", c.Kind, e)
		}
		for i := range room {
			room[i] = 0xff
		}
		if flat, ok := v.Flat(); !ok || !same(flat, c) {
			t.Fatalf("kind %d: turned later: %v", c.Kind, flat)
		}
	}
}

// TestGetShortBytes goes through all of up to three bytes, the first of which is of any kind or of none.
func TestGetShortBytes(t *testing.T) {
	check := func(b ...byte) {
		_, e := owedGet(b)
		get(t, "short", b, e)
	}
	for x := range 256 {
		check(byte(x))
		for y := range 256 {
			check(byte(x), byte(y))
			for z := 0; z < 256 && (x <= 18 || x == 128 || x == 130); z++ {
				check(byte(x), byte(y), byte(z))
			}
		}
		if t.Failed() {
			t.FailNow()
		}
	}
}

// spoil changes a few of b's bytes, takes some out, or puts some in.
func spoil(draw *rand.Rand, b []byte) []byte {
	b = slices.Clone(b)
	for range draw.Intn(3) {
		at := draw.Intn(len(b) + 1)
		switch draw.Intn(5) {
		case 0:
			b = b[:at]
		case 1:
			b = slices.Insert(b, at, byte(draw.Intn(256)))
		case 2:
			b = slices.Insert(b, at, 0x80)
		case 3:
			b = slices.Insert(b, at, binary.AppendVarint(nil, int64(drawnNum(draw)))...)
		default:
			if at < len(b) {
				b[at] ^= 1 << draw.Intn(8)
			}
		}
	}
	return b
}

func TestGetDrawn(t *testing.T) {
	draw := rand.New(rand.NewSource(93))
	seen := map[api.Errno]int{}
	for range 80000 {
		b := spoil(draw, laid(tokens(drawnCmd(draw))...))
		_, e := owedGet(b)
		seen[e]++
		get(t, "drawn", b, e)
		if t.Failed() {
			t.FailNow()
		}
	}
	for _, e := range []api.Errno{api.OK, api.ErrLong, api.ErrShort, api.ErrForm, api.ErrKind, api.ErrTail} {
		if seen[e] < 200 {
			t.Errorf("%d was drawn %d times", e, seen[e])
		}
	}
}
