package frame_test

import (
	"bytes"
	"encoding/binary"
	"math/rand"
	"testing"

	"impost/api"
	"impost/frame"
)

// P17.4

// put is what Put makes of the payloads, one behind the other, and where each frame ends.
func put(payloads [][]byte) ([]byte, []int) {
	var b []byte
	var ends []int
	for _, p := range payloads {
		b = frame.Put(b, p)
		ends = append(ends, len(b))
	}
	return b, ends
}

// TestFoundAgain puts drawn payloads, long ones among them, and finds them by Next and by Scan.
func TestFoundAgain(t *testing.T) {
	r := rand.New(rand.NewSource(179))
	all := lengths()
	for range 60 {
		var l [][]byte
		for range r.Intn(9) {
			n := 1 + r.Intn(80)
			if r.Intn(9) == 0 {
				n = all[r.Intn(len(all))]
			}
			l = append(l, drawn(r, n))
		}
		b, ends := put(l)
		scanIs(t, b, len(b), l...)
		at := 0
		for k, p := range l {
			nextIs(t, b, at, read{p, ends[k], api.OK})
			at = ends[k]
		}
		refused(t, b, at, api.ErrShort)
	}
}

// TestCutOffAnywhere leaves each number of bytes: the frames that are whole are found, and no other.
func TestCutOffAnywhere(t *testing.T) {
	r := rand.New(rand.NewSource(180))
	for _, sizes := range [][]int{{1}, {1, 1, 1}, {2, 1, 30, 4}, {255, 256, 257, 1}, {9, 300, 8}} {
		var l [][]byte
		for _, n := range sizes {
			l = append(l, drawn(r, n))
		}
		b, ends := put(l)
		for n := range len(b) + 1 {
			k, at := 0, 0
			for k < len(ends) && ends[k] <= n {
				at = ends[k]
				k++
			}
			scanIs(t, b[:n], at, l[:k]...)
			// the same without anything behind it as spare room
			scanIs(t, bytes.Clone(b[:n]), at, l[:k]...)
		}
	}
}

// TestCutOffTheLongest cuts the longest frame at some places.
func TestCutOffTheLongest(t *testing.T) {
	first, long := []byte("first"), bytes.Repeat([]byte{3}, api.MaxFrame)
	b, ends := put([][]byte{first, long})
	for _, n := range []int{13, 14, 17, 18, 1000, 65549, ends[1] - 5, ends[1] - 4, ends[1] - 1} {
		scanIs(t, b[:n], 13, first)
	}
	scanIs(t, b, ends[1], first, long)
}

// turn is b with the pattern's bits turned from the bit at on (a byte's bits from the lowest on), up to the bit end, and whether one was.
func turn(b []byte, at, end int, pattern uint64) ([]byte, bool) {
	x := bytes.Clone(b)
	turned := false
	for k := range 64 {
		if pattern>>k&1 == 1 && at+k < end {
			x[(at+k)/8] ^= 1 << ((at + k) % 8)
			turned = true
		}
	}
	return x, turned
}

// unfound fails, if the frame of x that begins there is found; those ahead of it must be.
func unfound(t *testing.T, x []byte, from int, ahead ...[]byte) {
	t.Helper()
	refused(t, x, from, api.ErrSum)
	scanIs(t, x, from, ahead...)
}

// TestShortBursts turns each pattern of up to 12 bits at each place behind the number.
func TestShortBursts(t *testing.T) {
	for _, p := range [][]byte{{0}, {255}, []byte("ab"), []byte("12345")} {
		b, _ := put([][]byte{p})
		for at := 32; at < 8*len(b); at++ {
			for pattern := uint64(1); pattern < 1<<12; pattern += 2 {
				x, _ := turn(b, at, 8*len(b), pattern)
				if got, end, e := frame.Next(x, 0); len(got) != 0 || end != 0 || e != api.ErrSum {
					t.Fatalf("%s, from the bit %d on %#x: %s, %d, %d", brief(b), at, pattern, brief(got), end, e)
				}
			}
		}
	}
}

// TestBursts turns drawn patterns of up to 32 bits, in a frame between two others too.
func TestBursts(t *testing.T) {
	r := rand.New(rand.NewSource(181))
	patterns := []uint64{1, 3, 0x80000001, 0xFFFFFFFF, 0x55555555, 0xAAAAAAAA, 0xEB31D82E, 0x741B8CD7, 0x80000000}
	for range 30 {
		patterns = append(patterns, uint64(r.Uint32()|1))
	}
	ahead, behind := []byte("ahead"), []byte("behind")
	for _, p := range [][]byte{{0}, []byte("ab"), make([]byte, 40), bytes.Repeat([]byte{255}, 33)} {
		b, ends := put([][]byte{ahead, p, behind})
		for at := 8 * (ends[0] + 4); at < 8*ends[1]; at++ {
			for _, pattern := range patterns {
				if x, turned := turn(b, at, 8*ends[1], pattern); turned {
					unfound(t, x, ends[0], ahead)
					nextIs(t, x, ends[1], read{behind, ends[2], api.OK})
				}
			}
		}
	}
}

// TestBurstsInTheLongest turns some bits of the longest frame.
func TestBurstsInTheLongest(t *testing.T) {
	r := rand.New(rand.NewSource(182))
	p := drawn(r, api.MaxFrame)
	b, _ := put([][]byte{p})
	nextIs(t, b, 0, read{p, len(b), api.OK})
	for _, at := range []int{32, 33, 63, 64, 4 * api.MaxFrame, 8*len(b) - 65, 8*len(b) - 40, 8*len(b) - 33, 8*len(b) - 32, 8*len(b) - 1} {
		for _, pattern := range []uint64{1, 0x80000001, 0xFFFFFFFF, uint64(r.Uint32() | 1)} {
			x, _ := turn(b, at, 8*len(b), pattern)
			refused(t, x, 0, api.ErrSum)
		}
	}
}

// TestEachByteTurned puts each other byte to each place behind the number.
func TestEachByteTurned(t *testing.T) {
	b, _ := put([][]byte{[]byte("a payload")})
	for k := 4; k < len(b); k++ {
		for v := 1; v < 256; v++ {
			x := bytes.Clone(b)
			x[k] ^= byte(v)
			unfound(t, x, 0)
		}
	}
}

// miss is what the sum of a frame's bytes and the sum that it bears differ by.
func miss(f []byte) uint32 {
	n := len(f) - 4
	return koopman(f[:n]) ^ binary.LittleEndian.Uint32(f[n:])
}

// A sum's bits hang on the turned ones by xor alone. So each of the 2^32 - 1 ways to turn some of 32 neighbours is told apart from none, if what the single ones change is linearly independent.
func TestAllBurstsByRank(t *testing.T) {
	for _, n := range []int{1, 2, 5, 64, 600} {
		f, _ := put([][]byte{bytes.Repeat([]byte{0x5A}, n)})
		if miss(f) != 0 {
			t.Fatalf("%s bears another sum", brief(f))
		}
		for at := 32; at+32 <= 8*len(f); at++ {
			if got := rank(f, at); got != 32 {
				t.Fatalf("%d bytes, from the bit %d on: rank %d", n, at, got)
			}
		}
	}
}

// rank is how many of the 32 bits of f from the bit at on change what it misses, each in a way that the others don't make up.
func rank(f []byte, at int) int {
	var byTop [32]uint32
	count := 0
	for k := range 32 {
		x, _ := turn(f, at+k, 8*len(f), 1)
		v := miss(x)
		for top := 31; top >= 0 && v != 0; top-- {
			if v>>top&1 == 0 {
				continue
			}
			if byTop[top] == 0 {
				byTop[top] = v
				count++
				break
			}
			v ^= byTop[top]
		}
	}
	return count
}

// TestNextGoesByWhatIsMissed turns any bits: a frame is found just if the sum of its bytes is the one that it bears. The polynomial itself, 33 bits long, turned, is the shortest that goes unseen.
func TestNextGoesByWhatIsMissed(t *testing.T) {
	const polynomial = 1 | 0xEB31D82E<<1
	f, _ := put([][]byte{[]byte("some payload")})
	for at := 32; at+33 <= 8*len(f); at++ {
		x, _ := turn(f, at, 8*len(f), polynomial)
		if miss(x) != 0 {
			t.Fatalf("the polynomial from the bit %d on is missed", at)
		}
		nextIs(t, x, 0, read{x[4:16], 20, api.OK})
		nextIs(t, x, 0, expected(x, 0))
		y, _ := turn(x, at, 8*len(f), 1<<32)
		refused(t, y, 0, api.ErrSum)
	}
}
