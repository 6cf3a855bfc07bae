package sum

import (
	"bytes"
	"hash/crc32"
	"math/rand"
	"testing"
)

// samples are byte strings of many lengths; the seed is fixed, so that each run tests the same.
func samples() [][]byte {
	r := rand.New(rand.NewSource(1))
	all := [][]byte{nil, {}, {0}, {0, 0}, {0, 0, 0, 0}, {255}, bytes.Repeat([]byte{255}, 9), []byte("ab"), []byte("12345")}
	for n := range 70 {
		p := make([]byte, n)
		r.Read(p)
		all = append(all, p)
	}
	return all
}

// roomy is p with spare room behind it that is filled with 0xAA.
func roomy(p []byte) []byte {
	whole := bytes.Repeat([]byte{0xAA}, len(p)+16)
	copy(whole, p)
	return whole[:len(p)]
}

// untouched tells whether what roomy made of p is still that.
func untouched(q, p []byte) bool {
	spare := q[:cap(q)][len(q):]
	return bytes.Equal(q, p) && len(spare) >= 16 && bytes.Count(spare, []byte{0xAA}) == len(spare)
}

// flip turns bit k of b, bits of a byte counted from the lowest on.
func flip(b []byte, k int) { b[k/8] ^= 1 << (k % 8) }

// P1.1

func TestOnKnown(t *testing.T) {
	runs := []struct {
		c    uint32
		p    string
		want uint32
	}{
		{0, "", 0},
		{77, "", 77},
		{0xFFFFFFFF, "", 0xFFFFFFFF},
		{0, "123456789", 0x2D3DD0AE},
	}
	for _, r := range runs {
		if got := On(r.c, []byte(r.p)); got != r.want {
			t.Errorf("On(%#x, %q) = %#x, not %#x", r.c, r.p, got, r.want)
		}
	}
	if On(5, nil) != On(5, []byte{}) {
		t.Error("nil and empty differ")
	}
}

func TestOnOracle(t *testing.T) {
	table := crc32.MakeTable(crc32.Koopman)
	for _, p := range samples() {
		for _, c := range []uint32{0, 1, 77, 0x80000000, 0xDEADBEEF, 0xFFFFFFFF} {
			if got, want := On(c, p), crc32.Update(c, table, p); got != want {
				t.Errorf("On(%#x, %x) = %#x, not %#x", c, p, got, want)
			}
		}
	}
}

func TestOnEachByte(t *testing.T) {
	seen := map[uint32]int{}
	for v := range 256 {
		s := ^uint32(9) ^ uint32(v)
		for range 8 {
			if s&1 == 1 {
				s = s>>1 ^ 0xEB31D82E
			} else {
				s >>= 1
			}
		}
		got := On(9, []byte{byte(v)})
		if got != ^s {
			t.Errorf("byte %d: %#x, not %#x", v, got, ^s)
		}
		seen[got]++
	}
	if len(seen) != 256 {
		t.Errorf("256 bytes have %d sums", len(seen))
	}
}

func TestOfNothing(t *testing.T) {
	if Of() != 0 || Of(nil) != 0 || Of(nil, []byte{}, nil) != 0 {
		t.Error("no bytes have a sum other than 0")
	}
}

func TestOfIsOnFromNought(t *testing.T) {
	for _, p := range samples() {
		if Of(p) != On(0, p) {
			t.Errorf("Of(%x) is not On(0, ..)", p)
		}
		if got, want := Of(p, []byte("xy"), p), On(On(On(0, p), []byte("xy")), p); got != want {
			t.Errorf("parts of %x: %#x, not %#x", p, got, want)
		}
	}
	if Of([]byte("a"), []byte("b")) == Of([]byte("b"), []byte("a")) {
		t.Error("the parts' order plays no part")
	}
}

func TestSumsLeaveTheirArguments(t *testing.T) {
	for _, p := range samples() {
		q := roomy(p)
		parts := [][]byte{q, q}
		spare := [][]byte{q, q, []byte("behind")}
		if On(3, q) != On(3, p) || Of(parts...) != Of(p, p) || Of(spare[:2]...) != Of(p, p) {
			t.Errorf("spare room is read: %x", p)
		}
		if !untouched(q, p) || !bytes.Equal(parts[0], p) || !bytes.Equal(parts[1], p) || string(spare[2]) != "behind" {
			t.Errorf("changed: %x", p)
		}
	}
}

// P1.2

func TestSealForm(t *testing.T) {
	if b := Seal(nil); !bytes.Equal(b, []byte{0, 0, 0, 0}) {
		t.Errorf("Seal of nothing: %x", b)
	}
	if b := Seal([]byte{}); !bytes.Equal(b, []byte{0, 0, 0, 0}) {
		t.Errorf("Seal of no byte: %x", b)
	}
	if b := Seal([]byte("123456789")); !bytes.Equal(b, []byte("123456789\xAE\xD0\x3D\x2D")) {
		t.Errorf("Seal: %x", b)
	}
	for _, p := range samples() {
		c := Of(p)
		want := append(bytes.Clone(p), byte(c), byte(c>>8), byte(c>>16), byte(c>>24))
		if b := Seal(p); !bytes.Equal(b, want) {
			t.Errorf("Seal(%x) = %x, not %x", p, b, want)
		}
	}
}

func TestSealIsNewMemory(t *testing.T) {
	for _, p := range samples() {
		q := roomy(p)
		b := Seal(q)
		other := Seal(q)
		for k := range b[:cap(b)] {
			b[:cap(b)][k] ^= 0xFF
		}
		if !untouched(q, p) {
			t.Errorf("Seal(%x) shares its argument's memory", p)
		}
		if !bytes.Equal(other, Seal(p)) {
			t.Errorf("two answers share memory: %x", p)
		}
	}
}

func TestOpenTooShort(t *testing.T) {
	for n := range 4 {
		for _, v := range []byte{0, 1, 255} {
			if p, ok := Open(bytes.Repeat([]byte{v}, n)); len(p) != 0 || ok {
				t.Errorf("%d bytes %d are opened: %x, %v", n, v, p, ok)
			}
		}
	}
	// the four noughts stand there, but three of them are spare room
	if p, ok := Open(make([]byte, 1, 4)); len(p) != 0 || ok {
		t.Errorf("spare room is opened: %x, %v", p, ok)
	}
	if p, ok := Open(nil); len(p) != 0 || ok {
		t.Errorf("nil is opened: %x, %v", p, ok)
	}
}

func TestOpenFourBytes(t *testing.T) {
	if p, ok := Open([]byte{0, 0, 0, 0}); len(p) != 0 || !ok {
		t.Errorf("Seal of nothing is not opened: %x, %v", p, ok)
	}
	for k := range 32 {
		b := make([]byte, 4)
		flip(b, k)
		if p, ok := Open(b); len(p) != 0 || ok {
			t.Errorf("%x is opened: %x, %v", b, p, ok)
		}
	}
}

func TestOpenWrong(t *testing.T) {
	p := []byte("123456789")
	wrong := map[string][]byte{
		"no sum":               p,
		"the highest first":    []byte("123456789\x2D\x3D\xD0\xAE"),
		"the sum ahead":        []byte("\xAE\xD0\x3D\x2D123456789"),
		"cut off":              Seal(p)[:12],
		"a byte behind":        append(Seal(p), 0),
		"without its first":    Seal(p)[1:],
		"a nought ahead":       append([]byte{0}, Seal(p)...),
		"another's sum":        append([]byte("123456780"), Seal(p)[9:]...),
		"the sum's turned":     []byte("123456789\x51\x2F\xC2\xD2"),
		"two bytes changed":    append([]byte("213456789"), Seal(p)[9:]...),
		"noughts for a sum":    append(bytes.Clone(p), 0, 0, 0, 0),
		"the first bit turned": append([]byte("`b"), Seal([]byte("ab"))[2:]...),
	}
	for name, b := range wrong {
		if q, ok := Open(b); len(q) != 0 || ok {
			t.Errorf("%s: %q, %v", name, q, ok)
		}
	}
}

func TestOpenIsWhatSealAnswers(t *testing.T) {
	for _, b := range samples() {
		if len(b) < 4 {
			continue
		}
		p, ok := Open(b)
		want := bytes.Equal(b, Seal(b[:len(b)-4]))
		if ok != want || (ok && !bytes.Equal(p, b[:len(b)-4])) || (!ok && len(p) != 0) {
			t.Errorf("Open(%x) = %x, %v", b, p, ok)
		}
	}
}

func TestOpenIsNewMemory(t *testing.T) {
	for _, p := range samples() {
		sealed := Seal(p)
		b := roomy(sealed)
		q, ok := Open(b)
		other, _ := Open(b)
		if !ok || !bytes.Equal(q, p) {
			t.Fatalf("Open of Seal(%x): %x, %v", p, q, ok)
		}
		for k := range q[:cap(q)] {
			q[:cap(q)][k] ^= 0xFF
		}
		if !untouched(b, sealed) {
			t.Errorf("Open of Seal(%x) shares its argument's memory", p)
		}
		if !bytes.Equal(other, p) {
			t.Errorf("two answers share memory: %x", p)
		}
	}
}

// P1.3

func TestOfPartsIsOfTheWhole(t *testing.T) {
	if Of([]byte("12"), nil, []byte("345")) != Of([]byte("12345")) {
		t.Error("12, nothing, 345")
	}
	for _, p := range samples() {
		whole := Of(p)
		bits := make([][]byte, 0, len(p))
		for k := range p {
			bits = append(bits, p[k:k+1])
			if got := Of(nil, p[:k], []byte{}, p[k:], nil); got != whole {
				t.Errorf("%x in two at %d: %#x, not %#x", p, k, got, whole)
			}
			if got := Of(p[:k/2], p[k/2:k], p[k:]); got != whole {
				t.Errorf("%x in three: %#x, not %#x", p, got, whole)
			}
		}
		if got := Of(bits...); got != whole {
			t.Errorf("%x byte by byte: %#x, not %#x", p, got, whole)
		}
	}
}

func TestOpenOfSeal(t *testing.T) {
	for _, p := range append(samples(), make([]byte, 70000), Seal([]byte("ab")), Seal(Seal(nil))) {
		if q, ok := Open(Seal(p)); !ok || !bytes.Equal(q, p) {
			t.Errorf("Open of Seal of %d bytes: %d bytes, %v", len(p), len(q), ok)
		}
	}
}

func TestBurstsAreNotOpened(t *testing.T) {
	r := rand.New(rand.NewSource(2))
	patterns := []uint32{1, 3, 5, 0xFF, 0x80000001, 0xFFFFFFFF, 0xEB31D82E, 0x741B8CD7, 0x80000000}
	for range 40 {
		patterns = append(patterns, r.Uint32()|1)
	}
	for _, p := range [][]byte{nil, {0}, []byte("ab"), []byte("12345"), make([]byte, 40), bytes.Repeat([]byte{255}, 33)} {
		b := Seal(p)
		for at := range 8 * len(b) {
			for _, pattern := range patterns {
				x, turned := burst(b, at, pattern)
				if q, ok := Open(x); ok == turned || (!ok && len(q) != 0) {
					t.Fatalf("Seal(%x), at %d %#x: %x, %v", p, at, pattern, q, ok)
				}
			}
		}
	}
}

// burst is b with the bits of the pattern turned from the bit at on, and whether one was.
func burst(b []byte, at int, pattern uint32) ([]byte, bool) {
	x := bytes.Clone(b)
	turned := false
	for k := range 32 {
		if pattern>>k&1 == 1 && at+k < 8*len(x) {
			flip(x, at+k)
			turned = true
		}
	}
	return x, turned
}

// The sum's bits hang on the turned ones by xor alone. So all 2^32 - 1 ways to turn some of 32 neighbours are told apart from none if what the single ones change is linearly independent.
func TestAllBurstsByRank(t *testing.T) {
	for _, n := range []int{0, 1, 5, 64} {
		b := Seal(bytes.Repeat([]byte{0x5A}, n))
		for at := range 8*len(b) - 31 {
			if got := rank(b, at); got != 32 {
				t.Errorf("%d bytes, from bit %d on: some burst isn't seen, rank %d", n, at, got)
			}
		}
	}
}

// rank is how many of the 32 bits of b from the bit at on change what Open compares, each in a way that the others don't make up.
func rank(b []byte, at int) int {
	n := len(b) - 4
	var byTop [32]uint32
	count := 0
	for k := range 32 {
		x := bytes.Clone(b)
		flip(x, at+k)
		v := Of(x[:n]) ^ Of(b[:n])
		for j := range 4 {
			v ^= uint32(x[n+j]^b[n+j]) << (8 * j)
		}
		for top := 31; top >= 0 && v != 0; top-- {
			if v>>top&1 == 0 {
				continue
			}
			if byTop[top] == 0 {
				byTop[top] = v
				count++
				break
			}
			v ^= byTop[top]
		}
	}
	return count
}
