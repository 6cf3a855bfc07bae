package command

import (
	"math/rand"
	"slices"
	"testing"

	"impost/api"
)

func TestRuns(t *testing.T) {
	if b, e := of(t, api.Cmd{Kind: api.COpen, Series: "a", Limit: 5}).Put(); string(b) != "\x02\x02\x61\x0a" || e != api.OK {
		t.Errorf("COpen: %x, %d", b, e)
	}
	if b, e := of(t, api.Cmd{Kind: api.CJoin}).Put(); string(b) != "\x0c" || e != api.OK {
		t.Errorf("CJoin: %x, %d", b, e)
	}
	if b, e := (Command{}).Put(); b != nil || e != api.ErrKind {
		t.Errorf("the zero Command: %x, %d", b, e)
	}
	get(t, "a byte behind", []byte{0x0c, 0}, api.ErrTail)
	get(t, "9 is no kind", []byte{0x12}, api.ErrKind)
	get(t, "a text without its byte", []byte{2, 2}, api.ErrShort)
	if c, ok := of(t, api.Cmd{Kind: api.CAsk, Series: "a"}).Flat(); !ok || !same(c, api.Cmd{Kind: api.CAsk, Series: "a"}) {
		t.Errorf("CAsk: %v, %v", c, ok)
	}
	join := of(t, api.Cmd{Kind: api.CJoin})
	if p := with(func() { join.MustPost() }); p != any(api.Wrong{Asked: api.CPost, Was: api.CJoin}) {
		t.Errorf("MustPost of CJoin panics with %v", p)
	}
}

// P9.1

func TestOfEachKind(t *testing.T) {
	for i, c := range samples() {
		v := of(t, c)
		flat, ok := v.Flat()
		if v.Kind() != c.Kind || !ok || !same(flat, c) {
			t.Errorf("%d: kind %d, %v, not %v", i, v.Kind(), flat, c)
		}
	}
}

func TestOfNoKind(t *testing.T) {
	for _, k := range []int{0, 9, -1, -8, 10, 16, 1<<8 + 1, 1<<32 + 1, 1<<40 + 8, -1 << 62, most, most - 1, far, far + 1, far + 4} {
		for _, c := range []api.Cmd{{Kind: k}, everyField(k)} {
			v, e := Of(c)
			flat, ok := v.Flat()
			if e != api.ErrKind || v.held != nil || v.Kind() != 0 || ok || !same(flat, api.Cmd{}) {
				t.Errorf("kind %d: %d, %v, %v", k, e, flat, ok)
			}
		}
	}
}

func TestZeroCommand(t *testing.T) {
	var c Command
	flat, ok := c.Flat()
	if c.Kind() != 0 || ok || !same(flat, api.Cmd{}) || flat.Lines != nil {
		t.Errorf("kind %d, %v, %v", c.Kind(), flat, ok)
	}
	if b, e := c.Put(); b != nil || e != api.ErrKind {
		t.Errorf("%x, %d", b, e)
	}
	if p := with(func() { c.MustPost() }); p != any(api.Wrong{Asked: api.CPost, Was: 0}) {
		t.Errorf("panics with %v", p)
	}
}

// others are a Cmd's fields, and what turns each of them alone.
var others = []struct {
	name string
	turn func(*api.Cmd)
}{
	{"Series", func(c *api.Cmd) { c.Series = "z" }},
	{"Limit", func(c *api.Cmd) { c.Limit = -9 }},
	{"Row.Category", func(c *api.Cmd) { c.Row.Category = "z" }},
	{"Row.From.Y", func(c *api.Cmd) { c.Row.From.Y = -9 }},
	{"Row.From.M", func(c *api.Cmd) { c.Row.From.M = -9 }},
	{"Row.From.D", func(c *api.Cmd) { c.Row.From.D = -9 }},
	{"Row.Bp", func(c *api.Cmd) { c.Row.Bp = -9 }},
	{"Day.Y", func(c *api.Cmd) { c.Day.Y = -9 }},
	{"Day.M", func(c *api.Cmd) { c.Day.M = -9 }},
	{"Day.D", func(c *api.Cmd) { c.Day.D = -9 }},
	{"Lines", func(c *api.Cmd) { c.Lines = []api.Line{{Count: -9}} }},
	{"thirteen Lines", func(c *api.Cmd) { c.Lines = make([]api.Line, 13) }},
	{"Of.Series", func(c *api.Cmd) { c.Of.Series = "z" }},
	{"Of.Number", func(c *api.Cmd) { c.Of.Number = -9 }},
	{"Session", func(c *api.Cmd) { c.Session = -9 }},
}

func TestEachFieldAlone(t *testing.T) {
	names := map[int][]string{
		api.COpen: {"Series", "Limit"}, api.CShut: {"Series"}, api.CLevy: {"Row.Category", "Row.From.Y", "Row.From.M", "Row.From.D", "Row.Bp"},
		api.CPost: {"Series", "Day.Y", "Day.M", "Day.D", "Lines", "thirteen Lines"}, api.CCredit: {"Series", "Day.Y", "Day.M", "Day.D", "Of.Series", "Of.Number"},
		api.CJoin: nil, api.CLeave: {"Session"}, api.CAsk: {"Series"},
	}
	for k, l := range names {
		for _, base := range []api.Cmd{{Kind: k}, named(everyField(k))} {
			plain, e := of(t, base).Put()
			if e != api.OK {
				t.Fatalf("kind %d: %d", k, e)
			}
			for _, o := range others {
				c := base
				o.turn(&c)
				counts := slices.Contains(l, o.name)
				flat, ok := of(t, c).Flat()
				want := base
				if counts {
					want = c
				}
				if !ok || !same(flat, want) {
					t.Errorf("kind %d, %s: %v, not %v", k, o.name, flat, want)
				}
				if b, _ := put(t, o.name, c); slices.Equal(b, plain) == counts {
					t.Errorf("kind %d, %s: %x, and %x without it", k, o.name, b, plain)
				}
			}
		}
	}
}

// TestOthersTooLong tells that what a kind doesn't name isn't asked how long it is.
func TestOthersTooLong(t *testing.T) {
	for k := api.COpen; k <= api.CAsk; k++ {
		keep := named(everyField(k))
		c := keep
		if k == api.CLevy || k == api.CJoin || k == api.CLeave {
			c.Series = over
		}
		if k != api.CLevy {
			c.Row.Category = over
		}
		if k != api.CPost {
			c.Lines = slices.Repeat([]api.Line{{Text: over, Category: over}}, 13)
		}
		if k != api.CCredit {
			c.Of.Series = over
		}
		b, e := of(t, c).Put()
		if want := laid(tokens(keep)...); e != api.OK || !slices.Equal(b, want) {
			t.Errorf("kind %d: %x, %d, not %x", k, b, e, want)
		}
		if flat, ok := of(t, c).Flat(); !ok || !same(flat, keep) {
			t.Errorf("kind %d: %v", k, flat)
		}
	}
}

func TestOfKeepsNothing(t *testing.T) {
	for k := api.COpen; k <= api.CAsk; k++ {
		c := everyField(k)
		room := append(make([]api.Line, 0, 8), c.Lines...)
		c.Lines = room
		spare := room[:cap(room)]
		for i := len(room); i < len(spare); i++ {
			spare[i].Price = -i
		}
		before := slices.Clone(spare)
		v := of(t, c)
		b, e := v.Put()
		v.Flat()
		if k == api.CPost {
			v.MustPost()
		}
		if !slices.Equal(spare, before) {
			t.Errorf("kind %d: changed: %v", k, spare)
		}
		for i := range spare {
			spare[i] = api.Line{Text: "turned"}
		}
		if flat, _ := v.Flat(); !same(flat, named(everyField(k))) {
			t.Errorf("kind %d: turned later: %v", k, flat)
		}
		if again, f := v.Put(); e != api.OK || f != api.OK || !slices.Equal(b, again) {
			t.Errorf("kind %d: turned later: %x, %d", k, again, f)
		}
	}
	v := of(t, api.Cmd{Kind: api.CPost, Lines: make([]api.Line, 2, 20)[:0]})
	if flat, ok := v.Flat(); !ok || len(flat.Lines) != 0 || cap(flat.Lines) != 0 {
		t.Errorf("the spare room of no lines: %v", flat)
	}
}

func TestNilAndEmptyLines(t *testing.T) {
	for _, l := range [][]api.Line{nil, {}, make([]api.Line, 0, 5)} {
		c := api.Cmd{Kind: api.CPost, Series: "a", Day: today, Lines: l}
		v := of(t, c)
		flat, ok := v.Flat()
		if !ok || !same(flat, c) || len(v.MustPost().Lines) != 0 {
			t.Errorf("%v: %v", l, flat)
		}
		if b, e := put(t, "no lines", c); e != api.OK || b[len(b)-1] != 0 {
			t.Errorf("%v: %x, %d", l, b, e)
		}
	}
}

// turnLines spoils an answer's lines, the room behind them too.
func turnLines(l []api.Line) {
	all := l[:cap(l)]
	for i := range all {
		all[i] = api.Line{Text: "turned", Count: -1}
	}
}

func TestLinesAreNewMemory(t *testing.T) {
	for _, n := range []int{1, 2, 3, 5, 7, 12, 13, 100} {
		want := slices.Repeat([]api.Line{{Text: "x", Category: "std", Count: n, Price: 1}}, n)
		c := api.Cmd{Kind: api.CPost, Series: "a", Day: today, Lines: want}
		made := []Command{of(t, c)}
		if b, e := made[0].Put(); e == api.OK {
			read, f := Get(b)
			if f != api.OK {
				t.Fatalf("%d lines: %d", n, f)
			}
			made = append(made, read)
		}
		for i, v := range made {
			one, _ := v.Flat()
			two, _ := v.Flat()
			p, q := v.MustPost(), v.MustPost()
			turnLines(one.Lines)
			turnLines(p.Lines)
			if !slices.Equal(two.Lines, want) || !slices.Equal(q.Lines, want) {
				t.Errorf("%d lines, %d: of another answer", n, i)
			}
			for _, l := range [][]api.Line{two.Lines, q.Lines} {
				for _, x := range l[:cap(l)] {
					if x.Text == "turned" {
						t.Errorf("%d lines, %d: spare room is shared", n, i)
					}
				}
			}
			if flat, _ := v.Flat(); !same(flat, c) || !slices.Equal(v.MustPost().Lines, want) {
				t.Errorf("%d lines, %d: of the command", n, i)
			}
		}
	}
}

// P9.4

func TestMustPost(t *testing.T) {
	for i, c := range samples() {
		v := of(t, c)
		var p Post
		what := with(func() { p = v.MustPost() })
		if c.Kind != api.CPost {
			if what != any(api.Wrong{Asked: api.CPost, Was: c.Kind}) {
				t.Errorf("%d: panics with %v", i, what)
			}
			continue
		}
		if what != nil || p.Series != c.Series || p.Day != c.Day || !slices.Equal(p.Lines, c.Lines) {
			t.Errorf("%d: %v, %v", i, p, what)
		}
	}
}

func TestMustPostOfBytes(t *testing.T) {
	for k := api.COpen; k <= api.CAsk; k++ {
		c := named(everyField(k))
		v, e := Get(laid(tokens(c)...))
		if e != api.OK {
			t.Fatalf("kind %d: %d", k, e)
		}
		var p Post
		what := with(func() { p = v.MustPost() })
		if k == api.CPost && (what != nil || p.Series != c.Series || p.Day != c.Day || !slices.Equal(p.Lines, c.Lines)) {
			t.Errorf("%v, %v", p, what)
		}
		if k != api.CPost && what != any(api.Wrong{Asked: 4, Was: k}) {
			t.Errorf("kind %d: panics with %v", k, what)
		}
	}
	v, _ := Get([]byte{0x12})
	if what := with(func() { v.MustPost() }); what != any(api.Wrong{Asked: 4, Was: 0}) {
		t.Errorf("what is beside an error: panics with %v", what)
	}
}

// P9.5

func TestGetOfPutIsTheCommand(t *testing.T) {
	draw := rand.New(rand.NewSource(95))
	l := samples()
	for range 40000 {
		l = append(l, drawnCmd(draw))
	}
	kinds, long := map[int]int{}, 0
	for i, c := range l {
		v := of(t, c)
		b, e := put(t, "drawn", c)
		if e != api.OK {
			long++
			continue
		}
		back, f := Get(b)
		was, _ := v.Flat()
		is, ok := back.Flat()
		if f != api.OK || !ok || !same(is, was) || !same(is, named(c)) || back.Kind() != c.Kind {
			t.Fatalf("%d: %v, %d, not %v", i, is, f, was)
		}
		again, g := back.Put()
		if g != api.OK || !slices.Equal(again, b) {
			t.Fatalf("%d: %x, %d, not %x", i, again, g, b)
		}
		kinds[c.Kind]++
	}
	for k := api.COpen; k <= api.CAsk; k++ {
		if kinds[k] < 1000 {
			t.Errorf("kind %d came %d times", k, kinds[k])
		}
	}
	if long < 1000 {
		t.Errorf("%d were too long", long)
	}
}
