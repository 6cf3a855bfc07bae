package pack

import (
	"bytes"
	"encoding/binary"
	"math"
	"math/rand"
	"strings"
	"testing"
)

// numbers are those at each width's edges on both sides of 0, and others of all sizes; the seed is fixed, so that each run tests the same.
func numbers() []int {
	all := []int{0, 1, -1, 2, -2, math.MaxInt, math.MaxInt - 1, math.MinInt, math.MinInt + 1}
	for k := range 64 {
		n := int(uint64(1) << k)
		all = append(all, n-1, n, n+1, -n, -n-1, -n+1)
	}
	r := rand.New(rand.NewSource(3))
	for range 2000 {
		all = append(all, int(r.Uint64())>>r.Intn(64))
	}
	return all
}

// texts are some whose lengths are at the edges of a length's own width, and some that are no runes.
func texts() []string {
	all := []string{"", "a", "ab", "x\x00", "\x00", "\xff\xfe", "Zoë", "\x80\x80\x00"}
	for _, n := range []int{62, 63, 64, 65, 127, 128, 8191, 8192, 70000} {
		all = append(all, strings.Repeat("q", n))
	}
	return all
}

// roomy is p with spare room behind it that is filled with 0xAA.
func roomy(p []byte) []byte {
	whole := bytes.Repeat([]byte{0xAA}, len(p)+40)
	copy(whole, p)
	return whole[:len(p)]
}

// untouched tells whether what roomy made of p is still that.
func untouched(q, p []byte) bool {
	spare := q[:cap(q)][len(q):]
	return bytes.Equal(q, p) && len(spare) >= 40 && bytes.Count(spare, []byte{0xAA}) == len(spare)
}

// heads are what may stand ahead of what is written.
func heads() [][]byte {
	return [][]byte{nil, {}, {7}, {0x80}, {0, 0}, bytes.Repeat([]byte{255}, 100)}
}

// P2.1

func TestNumKnown(t *testing.T) {
	runs := []struct {
		b    []byte
		n    int
		want []byte
	}{
		{nil, 0, []byte{0}},
		{[]byte{}, 0, []byte{0}},
		{[]byte{7}, -1, []byte{7, 1}},
		{nil, 1, []byte{2}},
		{nil, -2, []byte{3}},
		{nil, 63, []byte{126}},
		{nil, -64, []byte{127}},
		{nil, 64, []byte{0x80, 1}},
		{nil, -65, []byte{0x81, 1}},
		{nil, 8191, []byte{0xFE, 0x7F}},
		{nil, 8192, []byte{0x80, 0x80, 1}},
		{nil, math.MaxInt, []byte{0xFE, 0xFF, 0xFF, 0xFF, 0xFF, 0xFF, 0xFF, 0xFF, 0xFF, 1}},
		{[]byte{9}, math.MinInt, []byte{9, 0xFF, 0xFF, 0xFF, 0xFF, 0xFF, 0xFF, 0xFF, 0xFF, 0xFF, 1}},
	}
	for _, r := range runs {
		if got := Num(r.b, r.n); !bytes.Equal(got, r.want) {
			t.Errorf("Num(%x, %d) = %x, not %x", r.b, r.n, got, r.want)
		}
	}
}

func TestNumOracle(t *testing.T) {
	for _, b := range heads() {
		for _, n := range numbers() {
			want := binary.AppendVarint(bytes.Clone(b), int64(n))
			if got := Num(b, n); !bytes.Equal(got, want) {
				t.Fatalf("Num(%x, %d) = %x, not %x", b, n, got, want)
			}
		}
	}
}

func TestTextForm(t *testing.T) {
	if got := Text(nil, "ab"); !bytes.Equal(got, []byte{4, 'a', 'b'}) {
		t.Errorf("Text(nil, ab) = %x", got)
	}
	if got := Text([]byte{9}, ""); !bytes.Equal(got, []byte{9, 0}) {
		t.Errorf("Text(09, nothing) = %x", got)
	}
	for _, b := range heads() {
		for _, s := range texts() {
			want := append(binary.AppendVarint(bytes.Clone(b), int64(len(s))), s...)
			if got := Text(b, s); !bytes.Equal(got, want) {
				t.Errorf("Text(%x, %.9q of %d bytes): %d bytes, not %d", b, s, len(s), len(got), len(want))
			}
		}
	}
}

func TestFlagForm(t *testing.T) {
	for _, b := range heads() {
		if got := Flag(b, true); !bytes.Equal(got, append(bytes.Clone(b), 2)) {
			t.Errorf("Flag(%x, true) = %x", b, got)
		}
		if got := Flag(b, false); !bytes.Equal(got, append(bytes.Clone(b), 0)) {
			t.Errorf("Flag(%x, false) = %x", b, got)
		}
	}
}

func TestWritersMakeNewMemory(t *testing.T) {
	writers := map[string]func(b []byte) []byte{
		"0":         func(b []byte) []byte { return Num(b, 0) },
		"300":       func(b []byte) []byte { return Num(b, 300) },
		"the least": func(b []byte) []byte { return Num(b, math.MinInt) },
		"no text":   func(b []byte) []byte { return Text(b, "") },
		"a text":    func(b []byte) []byte { return Text(b, "abcdefg") },
		"a flag":    func(b []byte) []byte { return Flag(b, true) },
		"no flag":   func(b []byte) []byte { return Flag(b, false) },
	}
	for name, write := range writers {
		for _, p := range heads() {
			q := roomy(p)
			got, other, want := write(q), write(q), write(p)
			if !bytes.Equal(got, want) || !untouched(q, p) {
				t.Errorf("%s behind %x: %x, and %x is left", name, p, got, q[:cap(q)])
			}
			for k := range got[:cap(got)] {
				got[:cap(got)][k] ^= 0xFF
			}
			if !untouched(q, p) || !bytes.Equal(other, want) {
				t.Errorf("%s behind %x shares memory", name, p)
			}
		}
	}
}
