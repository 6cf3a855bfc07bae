package pack

import (
	"bytes"
	"encoding/binary"
	"math"
	"math/rand"
	"slices"
	"testing"

	"impost/api"
)

// nine are nine bytes that each say that there are more.
func nine(behind ...byte) []byte { return append(bytes.Repeat([]byte{0xFF}, 9), behind...) }

// reading is one of a reader's calls, by a name, and what it answers as one value.
type reading struct {
	name string
	call func(r *Reader) any
	zero any
}

// readings are a reader's five.
func readings() []reading {
	return []reading{
		{"Num", func(r *Reader) any { return r.Num() }, 0},
		{"Within", func(r *Reader) any { return r.Within(math.MinInt, math.MaxInt) }, 0},
		{"Count", func(r *Reader) any { return r.Count(math.MaxInt) }, 0},
		{"Text", func(r *Reader) any { return r.Text(math.MaxInt) }, ""},
		{"Flag", func(r *Reader) any { return r.Flag() }, false},
	}
}

// run is one reading of a reader that has gone through skip numbers, and how it must end.
type run struct {
	b    []byte
	skip int
	want any
	err  api.Errno
	at   int
}

func check(t *testing.T, name string, runs []run, call func(r *Reader) any) {
	t.Helper()
	for _, c := range runs {
		r := Read(c.b)
		for range c.skip {
			r.Num()
		}
		if got := call(r); got != c.want || r.Err() != c.err || r.At() != c.at {
			t.Errorf("%s of %x behind %d: %v, error %d at %d, not %v, %d at %d", name, c.b, c.skip, got, r.Err(), r.At(), c.want, c.err, c.at)
		}
	}
}

// P2.2

func TestReadIsACopy(t *testing.T) {
	p := Flag(Text(Num(nil, -77), "x\x00"), true)
	q := roomy(p)
	r := Read(q)
	for k := range q[:cap(q)] {
		q[:cap(q)][k] = 99
	}
	if r.Num() != -77 || r.Text(2) != "x\x00" || !r.Flag() || r.End() != api.OK || r.At() != len(p) {
		t.Errorf("a reader sees what is changed behind it: error %d at %d", r.Err(), r.At())
	}
}

func TestReadersLeaveWhatTheyRead(t *testing.T) {
	for _, p := range [][]byte{nil, {0}, {4, 'a', 'b'}, {6, 'a'}, nine(2), nine(1)} {
		for _, c := range readings() {
			q := roomy(p)
			r := Read(q)
			c.call(r)
			r.End()
			if !untouched(q, p) {
				t.Errorf("%s changes %x", c.name, p)
			}
		}
	}
}

func TestReadDoesNotSeeSpareRoom(t *testing.T) {
	whole := []byte{4, 'a', 'b', 0}
	for n, want := range []api.Errno{api.ErrShort, api.ErrShort, api.ErrShort, api.OK} {
		r := Read(whole[:n])
		if r.Text(9); r.Err() != want || (want == api.OK && r.End() != api.OK) {
			t.Errorf("a text of %x: error %d", whole[:n], r.Err())
		}
	}
}

func TestReadersAreApart(t *testing.T) {
	b := []byte{2, 4, 6}
	r, s := Read(b), Read(b)
	if r.Num() != 1 || s.At() != 0 || s.Num() != 1 || r.Num() != 2 || s.Flag() || s.Err() != api.ErrForm || r.Err() != api.OK || r.Num() != 3 {
		t.Error("two readers of the same bytes share a place or an error")
	}
}

func TestReadAhead(t *testing.T) {
	for _, b := range [][]byte{nil, {}, {0}, {0xFF}, nine(9)} {
		if r := Read(b); r.At() != 0 || r.Err() != api.OK {
			t.Errorf("a new reader of %x: error %d at %d", b, r.Err(), r.At())
		}
	}
}

func TestThingBehindThing(t *testing.T) {
	r := Read([]byte{0x80, 1, 1, 8, 4, 'h', 'i', 2, 0})
	is := func(got, want any, at int) {
		t.Helper()
		if got != want || r.At() != at || r.Err() != api.OK {
			t.Errorf("%v at %d, error %d, not %v at %d", got, r.At(), r.Err(), want, at)
		}
	}
	is(r.Num(), 64, 2)
	is(r.Within(-1, -1), -1, 3)
	is(r.Count(4), 4, 4)
	is(r.Text(2), "hi", 7)
	is(r.Flag(), true, 8)
	is(r.Flag(), false, 9)
	if r.End() != api.OK {
		t.Errorf("the end: %d", r.End())
	}
}

// wrongs are readers that have each error, and where they stand; bytes that could be read follow, and none is left ahead of the last one's error.
func wrongs() map[string]func() (*Reader, api.Errno, int) {
	return map[string]func() (*Reader, api.Errno, int){
		"form": func() (*Reader, api.Errno, int) {
			r := Read([]byte{2, 0x80, 0, 2, 2})
			r.Num()
			r.Num()
			return r, api.ErrForm, 1
		},
		"no flag": func() (*Reader, api.Errno, int) {
			r := Read([]byte{4, 2, 2})
			r.Flag()
			return r, api.ErrForm, 0
		},
		"long": func() (*Reader, api.Errno, int) {
			r := Read([]byte{2, 2, 2, 2})
			r.Num()
			r.Within(2, 3)
			return r, api.ErrLong, 1
		},
		"count": func() (*Reader, api.Errno, int) {
			r := Read([]byte{2, 6, 2, 2})
			r.Num()
			r.Count(9)
			return r, api.ErrShort, 1
		},
		"text": func() (*Reader, api.Errno, int) {
			r := Read([]byte{2, 6, 2, 2})
			r.Num()
			r.Text(9)
			return r, api.ErrShort, 1
		},
		"tail": func() (*Reader, api.Errno, int) {
			r := Read([]byte{2, 2, 2})
			r.Num()
			r.End()
			return r, api.ErrTail, 1
		},
		"short": func() (*Reader, api.Errno, int) {
			r := Read([]byte{2})
			r.Num()
			r.Num()
			return r, api.ErrShort, 1
		},
	}
}

func TestErrorStays(t *testing.T) {
	for name, wrong := range wrongs() {
		for _, c := range readings() {
			r, err, at := wrong()
			if r.Err() != err || r.At() != at {
				t.Fatalf("%s: error %d at %d, not %d at %d", name, r.Err(), r.At(), err, at)
			}
			for range 3 {
				if got := c.call(r); got != c.zero || r.Err() != err || r.At() != at {
					t.Errorf("%s, then %s: %v, error %d at %d", name, c.name, got, r.Err(), r.At())
				}
				if got := r.End(); got != err || r.Err() != err || r.At() != at {
					t.Errorf("%s, then End: %d, error %d at %d", name, got, r.Err(), r.At())
				}
			}
		}
		r, err, at := wrong()
		if got := r.Within(1, -1); got != 0 || r.Err() != err || r.At() != at {
			t.Errorf("%s, then a Within that nothing is in: %d, error %d at %d", name, got, r.Err(), r.At())
		}
		if r.Count(-1) != 0 || r.Text(-1) != "" || r.Within(5, 9) != 0 || r.Err() != err || r.At() != at {
			t.Errorf("%s, then bounds below 0: error %d at %d", name, r.Err(), r.At())
		}
	}
}

// P2.3

func TestReaderNum(t *testing.T) {
	check(t, "Num", []run{
		{nil, 0, 0, api.ErrShort, 0},
		{[]byte{}, 0, 0, api.ErrShort, 0},
		{[]byte{0}, 0, 0, api.OK, 1},
		{[]byte{1}, 0, -1, api.OK, 1},
		{[]byte{3, 9}, 0, -2, api.OK, 1},
		{[]byte{0x7F}, 0, -64, api.OK, 1},
		{[]byte{0x80, 1, 5}, 0, 64, api.OK, 2},
		{[]byte{0x80}, 0, 0, api.ErrShort, 0},
		{[]byte{0x80, 0x80}, 0, 0, api.ErrShort, 0},
		{[]byte{0x80, 0}, 0, 0, api.ErrForm, 0},
		{[]byte{0xFF, 0}, 0, 0, api.ErrForm, 0},
		{[]byte{0x80, 0x80, 0}, 0, 0, api.ErrForm, 0},
		{nine(), 0, 0, api.ErrShort, 0},
		{nine(0), 0, 0, api.ErrForm, 0},
		{nine(1), 0, math.MinInt, api.OK, 10},
		{nine(2), 0, 0, api.ErrForm, 0},
		{nine(0x7F), 0, 0, api.ErrForm, 0},
		{nine(0x80), 0, 0, api.ErrForm, 0},
		{nine(0x81, 0), 0, 0, api.ErrForm, 0},
		{nine(0xFF), 0, 0, api.ErrForm, 0},
		{nine(1, 1), 0, math.MinInt, api.OK, 10},
		{append([]byte{0xFE}, nine(1)[1:]...), 0, math.MaxInt, api.OK, 10},
		{append(bytes.Repeat([]byte{0x80}, 9), 1), 0, 1 << 62, api.OK, 10},
		{append(nine(1), 0x80, 0), 1, 0, api.ErrForm, 10},
		{[]byte{2, 0x80}, 1, 0, api.ErrShort, 1},
		{[]byte{2, 4}, 1, 2, api.OK, 2},
		{[]byte{2}, 1, 0, api.ErrShort, 1},
	}, func(r *Reader) any { return r.Num() })
}

// model is a number's reading told another way: by the widths that the library's own writer gives.
func model(b []byte) (int, api.Errno, int) {
	end := slices.IndexFunc(b, func(x byte) bool { return x < 0x80 })
	if len(b) > 9 && (end < 0 || end >= 9) && b[9] > 1 {
		return 0, api.ErrForm, 0
	}
	if end < 0 {
		return 0, api.ErrShort, 0
	}
	n, size := binary.Varint(b[:end+1])
	if size != end+1 || len(binary.AppendVarint(nil, n)) != size {
		return 0, api.ErrForm, 0
	}
	return int(n), api.OK, size
}

func TestReaderNumByModel(t *testing.T) {
	try := func(b []byte) {
		want, err, at := model(b)
		r := Read(b)
		if got := r.Num(); got != want || r.Err() != err || r.At() != at {
			t.Fatalf("Num of %x: %d, error %d at %d, not %d, %d at %d", b, got, r.Err(), r.At(), want, err, at)
		}
	}
	for x := range 1 << 16 {
		try([]byte{byte(x)})
		try([]byte{byte(x), byte(x >> 8)})
		try([]byte{byte(x), 0x80, byte(x >> 8)})
		try(nine(byte(x), byte(x>>8)))
	}
	rnd := rand.New(rand.NewSource(4))
	for range 20000 {
		b := make([]byte, rnd.Intn(13))
		for k := range b {
			b[k] = byte(rnd.Intn(256))
			if rnd.Intn(8) > 0 {
				b[k] |= 0x80
			}
		}
		try(b)
	}
}

func TestWithin(t *testing.T) {
	runs := []struct {
		run
		lo, hi int
	}{
		{run{[]byte{10}, 0, 0, api.ErrLong, 0}, 0, 4},
		{run{[]byte{10}, 0, 5, api.OK, 1}, 0, 5},
		{run{[]byte{10}, 0, 5, api.OK, 1}, 5, 5},
		{run{[]byte{10}, 0, 0, api.ErrLong, 0}, 6, 9},
		{run{[]byte{10}, 0, 0, api.ErrLong, 0}, 6, 4},
		{run{[]byte{1}, 0, -1, api.OK, 1}, -1, 0},
		{run{[]byte{1}, 0, 0, api.ErrLong, 0}, 0, 5},
		{run{[]byte{3}, 0, 0, api.ErrLong, 0}, -1, 5},
		{run{[]byte{0}, 0, 0, api.ErrLong, 0}, 1, -1},
		{run{[]byte{2, 3}, 1, -2, api.OK, 2}, -2, -2},
		{run{[]byte{2, 3}, 1, 0, api.ErrLong, 1}, -1, -1},
		{run{nil, 0, 0, api.ErrShort, 0}, 0, 0},
		{run{[]byte{0x80}, 0, 0, api.ErrShort, 0}, 1, 2},
		{run{[]byte{0x80, 0}, 0, 0, api.ErrForm, 0}, 1, 2},
		{run{nine(2), 0, 0, api.ErrForm, 0}, 1, 2},
		{run{nine(1), 0, math.MinInt, api.OK, 10}, math.MinInt, math.MaxInt},
		{run{nine(1), 0, 0, api.ErrLong, 0}, math.MinInt + 1, math.MaxInt},
		{run{Num(nil, math.MaxInt), 0, math.MaxInt, api.OK, 10}, math.MinInt, math.MaxInt},
		{run{Num(nil, math.MaxInt), 0, 0, api.ErrLong, 0}, math.MinInt, math.MaxInt - 1},
	}
	for _, c := range runs {
		check(t, "Within", []run{c.run}, func(r *Reader) any { return r.Within(c.lo, c.hi) })
	}
}

func TestReaderFlag(t *testing.T) {
	check(t, "Flag", []run{
		{[]byte{0}, 0, false, api.OK, 1},
		{[]byte{2}, 0, true, api.OK, 1},
		{[]byte{4}, 0, false, api.ErrForm, 0},
		{[]byte{1}, 0, false, api.ErrForm, 0},
		{[]byte{3}, 0, false, api.ErrForm, 0},
		{[]byte{2, 2}, 1, true, api.OK, 2},
		{[]byte{2, 4}, 1, false, api.ErrForm, 1},
		{[]byte{0x82, 1}, 0, false, api.ErrForm, 0},
		{[]byte{0x82, 0}, 0, false, api.ErrForm, 0},
		{[]byte{0x82}, 0, false, api.ErrShort, 0},
		{nil, 0, false, api.ErrShort, 0},
		{nine(1), 0, false, api.ErrForm, 0},
	}, func(r *Reader) any { return r.Flag() })
	for x := range 128 {
		r := Read([]byte{byte(x)})
		got := r.Flag()
		if got != (x == 2) || (r.Err() == api.OK) != (x == 0 || x == 2) {
			t.Errorf("Flag of %x: %v, error %d", x, got, r.Err())
		}
	}
}

func TestCount(t *testing.T) {
	runs := []struct {
		run
		most int
	}{
		{run{[]byte{0}, 0, 0, api.OK, 1}, 0},
		{run{[]byte{0, 7}, 0, 0, api.OK, 1}, 9},
		{run{[]byte{4, 9, 9}, 0, 2, api.OK, 1}, 2},
		{run{[]byte{4, 9, 9, 9}, 0, 2, api.OK, 1}, 9},
		{run{[]byte{4, 9, 9}, 0, 0, api.ErrLong, 0}, 1},
		{run{[]byte{4, 9}, 0, 0, api.ErrShort, 0}, 9},
		{run{[]byte{4}, 0, 0, api.ErrShort, 0}, 9},
		{run{[]byte{4}, 0, 0, api.ErrLong, 0}, 1},
		{run{[]byte{1, 9}, 0, 0, api.ErrLong, 0}, 9},
		{run{[]byte{0}, 0, 0, api.ErrLong, 0}, -1},
		{run{nil, 0, 0, api.ErrShort, 0}, 9},
		{run{nil, 0, 0, api.ErrShort, 0}, -1},
		{run{[]byte{0x84, 0}, 0, 0, api.ErrForm, 0}, 9},
		{run{[]byte{2, 4, 9}, 1, 0, api.ErrShort, 1}, 9},
		{run{[]byte{2, 4, 9, 9}, 1, 2, api.OK, 2}, 9},
		{run{Num(nil, math.MaxInt), 0, 0, api.ErrShort, 0}, math.MaxInt},
		{run{Num([]byte{0}, math.MaxInt), 1, 0, api.ErrShort, 1}, math.MaxInt},
		{run{Num(nil, math.MinInt), 0, 0, api.ErrLong, 0}, math.MaxInt},
	}
	for _, c := range runs {
		check(t, "Count", []run{c.run}, func(r *Reader) any { return r.Count(c.most) })
	}
}

func TestReaderText(t *testing.T) {
	runs := []struct {
		run
		most int
	}{
		{run{[]byte{0}, 0, "", api.OK, 1}, 0},
		{run{[]byte{0, 7}, 0, "", api.OK, 1}, 9},
		{run{[]byte{4, 'a', 'b'}, 0, "ab", api.OK, 3}, 2},
		{run{[]byte{4, 'a', 'b', 'c'}, 0, "ab", api.OK, 3}, 9},
		{run{[]byte{4, 0xFF, 0}, 0, "\xff\x00", api.OK, 3}, 9},
		{run{[]byte{6, 'a', 'b', 'c'}, 0, "", api.ErrLong, 0}, 2},
		{run{[]byte{6, 'a'}, 0, "", api.ErrShort, 0}, 9},
		{run{[]byte{6}, 0, "", api.ErrShort, 0}, 9},
		{run{[]byte{6}, 0, "", api.ErrLong, 0}, 2},
		{run{[]byte{1, 'a'}, 0, "", api.ErrLong, 0}, 9},
		{run{[]byte{0}, 0, "", api.ErrLong, 0}, -1},
		{run{nil, 0, "", api.ErrShort, 0}, 9},
		{run{[]byte{0x84, 0, 'a', 'b'}, 0, "", api.ErrForm, 0}, 9},
		{run{[]byte{2, 2, 'a'}, 1, "a", api.OK, 3}, 9},
		{run{[]byte{2, 4, 'a'}, 1, "", api.ErrShort, 1}, 9},
		{run{append(Num([]byte{0}, math.MaxInt), 'a'), 1, "", api.ErrShort, 1}, math.MaxInt},
		{run{Num(nil, math.MinInt), 0, "", api.ErrLong, 0}, math.MaxInt},
	}
	for _, c := range runs {
		check(t, "Text", []run{c.run}, func(r *Reader) any { return r.Text(c.most) })
	}
}

// P2.4

func TestEnd(t *testing.T) {
	for _, b := range [][]byte{nil, {}} {
		r := Read(b)
		if r.End() != api.OK || r.Err() != api.OK || r.At() != 0 || r.End() != api.OK {
			t.Errorf("the end of nothing: error %d at %d", r.Err(), r.At())
		}
		if r.Num() != 0 || r.Err() != api.ErrShort || r.End() != api.ErrShort {
			t.Errorf("a number behind the end: error %d", r.Err())
		}
	}
	r := Read([]byte{0})
	if r.End() != api.ErrTail || r.Err() != api.ErrTail || r.At() != 0 || r.Num() != 0 || r.At() != 0 || r.End() != api.ErrTail {
		t.Errorf("the end ahead of a byte: error %d at %d", r.Err(), r.At())
	}
	r = Read([]byte{2, 4, 6})
	for k := range 3 {
		if r.Err() != api.OK || r.At() != k || r.Num() != k+1 {
			t.Errorf("number %d: error %d at %d", k, r.Err(), r.At())
		}
	}
	if r.End() != api.OK || r.Err() != api.OK || r.At() != 3 {
		t.Errorf("the end: error %d at %d", r.Err(), r.At())
	}
}

func TestAskingChangesNothing(t *testing.T) {
	r := Read([]byte{2, 4})
	for range 5 {
		r.Err()
		r.At()
	}
	if r.Num() != 1 || r.Err() != api.OK || r.At() != 1 || r.Num() != 2 || r.End() != api.OK {
		t.Errorf("Err and At change the reader: error %d at %d", r.Err(), r.At())
	}
}

// P2.5

// tails are what may stand behind what was written.
func tails() [][]byte { return [][]byte{nil, {0}, {0x80}, {77, 1}, nine(2)} }

func TestNumbersAreReadBack(t *testing.T) {
	for _, n := range numbers() {
		b := Num(nil, n)
		for _, tail := range tails() {
			r := Read(append(bytes.Clone(b), tail...))
			if got := r.Num(); got != n || r.At() != len(b) || (r.End() == api.OK) != (len(tail) == 0) {
				t.Errorf("%d with %x behind: %d at %d", n, tail, got, r.At())
			}
		}
		for k := range b {
			r := Read(b[:k])
			if got := r.Num(); got != 0 || r.Err() != api.ErrShort || r.At() != 0 {
				t.Errorf("%d bytes of %d: %d, error %d", k, n, got, r.Err())
			}
		}
	}
}

func TestTextsAreReadBack(t *testing.T) {
	for _, s := range texts() {
		b := Text(nil, s)
		for _, tail := range tails() {
			r := Read(append(bytes.Clone(b), tail...))
			if got := r.Text(len(s)); got != s || r.At() != len(b) || r.Err() != api.OK {
				t.Errorf("%.9q with %x behind: %.9q, error %d at %d", s, tail, got, r.Err(), r.At())
			}
		}
		for k := 0; k < len(b); k += 1 + k/16 {
			r := Read(b[:k])
			if got := r.Text(len(s)); got != "" || r.Err() != api.ErrShort || r.At() != 0 {
				t.Errorf("%d bytes of %.9q: %q, error %d", k, s, got, r.Err())
			}
		}
	}
}

func TestFlagsAreReadBack(t *testing.T) {
	for _, f := range []bool{false, true} {
		for _, tail := range tails() {
			r := Read(append(Flag(nil, f), tail...))
			if got := r.Flag(); got != f || r.At() != 1 || r.Err() != api.OK {
				t.Errorf("%v with %x behind: %v, error %d at %d", f, tail, got, r.Err(), r.At())
			}
		}
	}
}

func TestManyThingsAreReadBack(t *testing.T) {
	var b []byte
	for _, n := range numbers()[:500] {
		b = Flag(Text(Num(b, n), string(Num(nil, n))), n < 0)
	}
	r := Read(b)
	for _, n := range numbers()[:500] {
		if r.Num() != n || r.Text(10) != string(Num(nil, n)) || r.Flag() != (n < 0) {
			t.Fatalf("%d: error %d at %d", n, r.Err(), r.At())
		}
	}
	if r.End() != api.OK || r.At() != len(b) {
		t.Errorf("the end: error %d at %d", r.Err(), r.At())
	}
}

func TestOneFormAlone(t *testing.T) {
	try := func(b []byte) bool {
		r := Read(b)
		var again []byte
		for r.Err() == api.OK && r.At() < len(b) {
			again = Num(again, r.Num())
		}
		if r.End() != api.OK {
			return false
		}
		if !bytes.Equal(again, b) {
			t.Fatalf("%x is read as the numbers that write %x", b, again)
		}
		return true
	}
	rnd := rand.New(rand.NewSource(5))
	read := 0
	for x := range 1 << 16 {
		b := []byte{byte(x), byte(x >> 8), byte(rnd.Intn(256)), byte(rnd.Intn(256))}
		if try(b[:2]) && try(b) && try(append(b, nine(byte(rnd.Intn(3)))...)) {
			read++
		}
	}
	if read == 0 {
		t.Error("nothing was read to its end")
	}
}
