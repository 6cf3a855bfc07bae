package command

import (
	"encoding/binary"
	"math"
	"math/rand"
	"reflect"
	"slices"
	"strings"
	"testing"

	"impost/api"
)

const (
	most = math.MaxInt
	far  = math.MinInt
)

var today = api.Date{Y: 2026, M: 11, D: 17}

// A text of as many bytes as one may have, and one of one more.
var (
	full = strings.Repeat("x", 64)
	over = strings.Repeat("x", 65)
)

// token is a number or a text of a command's bytes.
type token struct {
	text bool
	n    int
	s    string
}

func num(n int) token    { return token{n: n} }
func txt(s string) token { return token{text: true, s: s} }

// shapes say what stands behind each kind's number: t a text, n a number, l the number of lines, and they.
var shapes = []string{api.COpen: "tn", api.CShut: "t", api.CLevy: "tnnnn", api.CPost: "tnnnl", api.CCredit: "tnnntn", api.CJoin: "", api.CLeave: "n", api.CAsk: "t"}

// tokens are the chapter's sentence of P9.2: what c's bytes tell, in their order, its kind first.
func tokens(c api.Cmd) []token {
	day := func(d api.Date) []token { return []token{num(d.Y), num(d.M), num(d.D)} }
	l := []token{num(c.Kind)}
	switch c.Kind {
	case 1:
		l = append(l, txt(c.Series), num(c.Limit))
	case 2, 8:
		l = append(l, txt(c.Series))
	case 3:
		l = append(append(append(l, txt(c.Row.Category)), day(c.Row.From)...), num(c.Row.Bp))
	case 4:
		l = append(append(append(l, txt(c.Series)), day(c.Day)...), num(len(c.Lines)))
		for _, x := range c.Lines {
			l = append(l, txt(x.Text), txt(x.Category), num(x.Count), num(x.Price))
		}
	case 5:
		l = append(append(append(l, txt(c.Series)), day(c.Day)...), txt(c.Of.Series), num(c.Of.Number))
	case 7:
		l = append(l, num(c.Session))
	}
	return l
}

// laid are the bytes of l, with no limit asked; the library's form of numbers is chapter 2's.
func laid(l ...token) []byte {
	var b []byte
	for _, x := range l {
		if x.text {
			b = append(binary.AppendVarint(b, int64(len(x.s))), x.s...)
		} else {
			b = binary.AppendVarint(b, int64(x.n))
		}
	}
	return b
}

// owedPut is what Put must say of a Command of c, told by the limits' own numbers.
func owedPut(c api.Cmd) ([]byte, api.Errno) {
	l := tokens(c)
	for _, x := range l {
		if len(x.s) > 64 {
			return nil, api.ErrLong
		}
	}
	if b := laid(l...); len(b) <= 1024 && (c.Kind != api.CPost || len(c.Lines) <= 12) {
		return b, api.OK
	}
	return nil, api.ErrLong
}

// walk goes through bytes by a shape, till the first fault.
type walk struct {
	b []byte
	l []token
	e api.Errno
}

// num takes a number, 0 to hi unless hi is below 0.
func (w *walk) num(hi int) int {
	if w.e != api.OK {
		return 0
	}
	n, size, e := unlaid(w.b)
	if e == api.OK && hi >= 0 && (n < 0 || n > hi) {
		e = api.ErrLong
	}
	w.b, w.e = w.b[size:], e
	return n
}

// unlaid is the number that b begins with, and how many bytes it takes, held against what the library writes of it.
func unlaid(b []byte) (int, int, api.Errno) {
	more := 0
	for more < len(b) && b[more] >= 128 {
		more++
	}
	if more >= 10 {
		return 0, 0, api.ErrForm
	}
	if more == len(b) {
		return 0, 0, api.ErrShort
	}
	head := b[:more+1]
	n, size := binary.Varint(head)
	if size != len(head) || !slices.Equal(binary.AppendVarint(nil, n), head) {
		return 0, 0, api.ErrForm
	}
	return int(n), size, api.OK
}

func (w *walk) shape(s string) {
	for _, sign := range s {
		switch sign {
		case 'n':
			w.l = append(w.l, num(w.num(-1)))
		case 't':
			n := w.num(64)
			if w.e == api.OK && n > len(w.b) {
				w.e = api.ErrShort
			}
			if w.e == api.OK {
				w.l, w.b = append(w.l, txt(string(w.b[:n]))), w.b[n:]
			}
		case 'l':
			n := w.num(12)
			if w.e == api.OK && n > len(w.b) {
				w.e = api.ErrShort
			}
			if w.e == api.OK {
				w.l = append(w.l, num(n))
				w.shape(strings.Repeat("ttnn", n))
			}
		}
	}
}

// owedGet is what Get must say of b: the tokens of the command, or why there is none.
func owedGet(b []byte) ([]token, api.Errno) {
	if len(b) > 1024 {
		return nil, api.ErrLong
	}
	w := &walk{b: b}
	k := w.num(-1)
	if w.e != api.OK {
		return nil, w.e
	}
	if k < 1 || k > 8 {
		return nil, api.ErrKind
	}
	w.l = append(w.l, num(k))
	w.shape(shapes[k])
	if w.e == api.OK && len(w.b) > 0 {
		w.e = api.ErrTail
	}
	if w.e != api.OK {
		return nil, w.e
	}
	return w.l, api.OK
}

// same holds two flat commands against each other, lists without elements as one.
func same(a, b api.Cmd) bool {
	if !slices.Equal(a.Lines, b.Lines) {
		return false
	}
	a.Lines, b.Lines = nil, nil
	return reflect.DeepEqual(a, b)
}

// everyField is a Cmd of that kind with no field zero, whether the kind names it or not.
func everyField(kind int) api.Cmd {
	return api.Cmd{
		Kind: kind, Series: "s", Limit: 11, Row: api.Rate{Category: "c", From: api.Date{Y: 1, M: 2, D: 3}, Bp: 12}, Day: api.Date{Y: 4, M: 5, D: 6},
		Lines: []api.Line{{Text: "t", Category: "k", Count: 13, Price: 14}, {Text: "u", Category: "l", Count: 15, Price: 16}}, Of: api.Ref{Series: "o", Number: 17}, Session: 18,
	}
}

// named is c with the fields alone that its kind names, by the remarks beside the kinds.
func named(c api.Cmd) api.Cmd {
	switch c.Kind {
	case api.COpen:
		return api.Cmd{Kind: 1, Series: c.Series, Limit: c.Limit}
	case api.CShut:
		return api.Cmd{Kind: 2, Series: c.Series}
	case api.CLevy:
		return api.Cmd{Kind: 3, Row: c.Row}
	case api.CPost:
		return api.Cmd{Kind: 4, Series: c.Series, Day: c.Day, Lines: c.Lines}
	case api.CCredit:
		return api.Cmd{Kind: 5, Series: c.Series, Day: c.Day, Of: c.Of}
	case api.CLeave:
		return api.Cmd{Kind: 7, Session: c.Session}
	case api.CAsk:
		return api.Cmd{Kind: 8, Series: c.Series}
	}
	return api.Cmd{Kind: c.Kind}
}

// samples are commands of every kind whose fields are just those that the kind names.
func samples() []api.Cmd {
	var l []api.Cmd
	for k := api.COpen; k <= api.CAsk; k++ {
		l = append(l, api.Cmd{Kind: k}, named(everyField(k)))
		for _, s := range []string{"", "a", "\x00", "\xff\xfe", "a\x80", "\u00fc", full, over, strings.Repeat("long", 5000)} {
			for _, n := range []int{0, 1, -1, 63, 64, -64, -65, 1 << 40, most, far} {
				d := api.Date{Y: n, M: -n, D: n ^ 1}
				line := api.Line{Text: s, Category: "c" + s, Count: n, Price: -n}
				l = append(l, named(api.Cmd{Kind: k, Series: s, Limit: n, Row: api.Rate{Category: s, From: d, Bp: n}, Day: d, Lines: []api.Line{line, {}, line}, Of: api.Ref{Series: s, Number: n}, Session: n}))
			}
		}
	}
	for _, n := range []int{0, 1, 11, 12, 13, 1000} {
		l = append(l, api.Cmd{Kind: api.CPost, Lines: make([]api.Line, n)}, api.Cmd{Kind: api.CPost, Series: "a", Day: today, Lines: slices.Repeat([]api.Line{{Text: "x", Category: "std", Count: 1, Price: 100}}, n)})
	}
	return l
}

// drawnText is mostly short; some are at the limit, few above it.
func drawnText(draw *rand.Rand) string {
	size := draw.Intn(5)
	switch draw.Intn(40) {
	case 0:
		size = 60 + draw.Intn(6)
	case 1, 2:
		size = 62 + draw.Intn(3)
	}
	b := make([]byte, size)
	for i := range b {
		b[i] = byte(draw.Intn(256))
	}
	return string(b)
}

// drawnNum is of any length, either side of 0.
func drawnNum(draw *rand.Rand) int { return int(draw.Uint64()) >> draw.Intn(64) }

// drawnCmd has all fields drawn, those too that its kind doesn't name.
func drawnCmd(draw *rand.Rand) api.Cmd {
	n := func() int { return drawnNum(draw) }
	s := func() string { return drawnText(draw) }
	c := api.Cmd{Kind: 1 + draw.Intn(8), Series: s(), Limit: n(), Row: api.Rate{Category: s(), From: api.Date{Y: n(), M: n(), D: n()}, Bp: n()}, Day: api.Date{Y: n(), M: n(), D: n()}, Of: api.Ref{Series: s(), Number: n()}, Session: n()}
	for range draw.Intn(15) {
		c.Lines = append(c.Lines, api.Line{Text: s(), Category: s(), Count: n(), Price: n()})
	}
	return c
}

// of is the Command of c, which has a Kind.
func of(t *testing.T, c api.Cmd) Command {
	t.Helper()
	v, e := Of(c)
	if e != api.OK {
		t.Fatalf("Of kind %d: %d", c.Kind, e)
	}
	return v
}

// put holds Put of c against the model, and tells the bytes.
func put(t *testing.T, what string, c api.Cmd) ([]byte, api.Errno) {
	t.Helper()
	b, e := of(t, c).Put()
	want, f := owedPut(c)
	if e != f || !slices.Equal(b, want) || e != api.OK && b != nil {
		t.Errorf("%s, kind %d: %x, %d, not %x, %d", what, c.Kind, b, e, want, f)
	}
	return b, e
}

// get holds Get(b) against want, and what it answers against b.
func get(t *testing.T, what string, b []byte, want api.Errno) {
	t.Helper()
	c, e := Get(b)
	l, f := owedGet(b)
	if f != want {
		t.Fatalf("%s: %x: the model says %d, the test %d", what, b, f, want)
	}
	if e != want {
		t.Errorf("%s: %x: %d, not %d", what, b, e, want)
		return
	}
	flat, ok := c.Flat()
	if e != api.OK {
		if c.held != nil || ok || c.Kind() != 0 {
			t.Errorf("%s: %x: a command beside %d", what, b, e)
		}
		return
	}
	if !ok || !slices.Equal(tokens(flat), l) || !same(flat, named(flat)) || c.Kind() != flat.Kind {
		t.Errorf("%s: %x: %v", what, b, flat)
	}
	if p, g := c.Put(); g != api.OK || !slices.Equal(p, b) {
		t.Errorf("%s: %x is written as %x, %d", what, b, p, g)
	}
}

// with runs f and tells what it panics with.
func with(f func()) (what any) {
	defer func() { what = recover() }()
	f()
	return nil
}
