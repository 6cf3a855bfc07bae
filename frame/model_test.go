package frame_test

import (
	"bytes"
	"encoding/binary"
	"fmt"
	"hash/crc32"
	"math"
	"math/rand"
	"slices"
	"testing"

	"impost/api"
	"impost/frame"
)

const (
	least = math.MinInt
	most  = math.MaxInt
)

// koopman is the library's sum by chapter 1's polynomial, so that nothing here leans on package sum.
func koopman(b []byte) uint32 { return crc32.Checksum(b, crc32.MakeTable(crc32.Koopman)) }

// framed is a frame by the chapter's words, with any number and any sum: the tests spoil them.
func framed(n uint32, payload []byte, c uint32) []byte {
	b := binary.LittleEndian.AppendUint32(nil, n)
	b = append(b, payload...)
	return binary.LittleEndian.AppendUint32(b, c)
}

// whole is the frame of a payload, whatever its length.
func whole(payload []byte) []byte {
	f := framed(uint32(len(payload)), payload, 0)
	body := f[:len(f)-4]
	return binary.LittleEndian.AppendUint32(bytes.Clone(body), koopman(body))
}

// frames are the payloads' frames, one behind the other.
func frames(payloads ...[]byte) []byte {
	var b []byte
	for _, p := range payloads {
		b = append(b, whole(p)...)
	}
	return b
}

// read is what Next answers.
type read struct {
	payload []byte
	end     int
	e       api.Errno
}

// expected is what Next must answer, in numbers that hold any sum of lengths.
func expected(b []byte, at int) read {
	if at < 0 || len(b) < at {
		return read{e: api.ErrArg}
	}
	left := int64(len(b)) - int64(at)
	if left < 4 {
		return read{e: api.ErrShort}
	}
	n := int64(binary.LittleEndian.Uint32(b[at:]))
	if n < 1 || n > 131072 {
		return read{e: api.ErrForm}
	}
	if left-4 < n+4 {
		return read{e: api.ErrShort}
	}
	end := at + 4 + int(n)
	if binary.LittleEndian.Uint32(b[end:]) != koopman(b[at:end]) {
		return read{e: api.ErrSum}
	}
	return read{b[at+4 : end], end + 4, api.OK}
}

// nextIs fails, if Next doesn't answer just that.
func nextIs(t *testing.T, b []byte, at int, want read) {
	t.Helper()
	p, end, e := frame.Next(b, at)
	if !bytes.Equal(p, want.payload) || end != want.end || e != want.e {
		t.Errorf("Next(%s, %d): %s, %d, %d, not %s, %d, %d", brief(b), at, brief(p), end, e, brief(want.payload), want.end, want.e)
	}
}

// refused fails, if Next doesn't answer that error, and nothing beside it.
func refused(t *testing.T, b []byte, at int, want api.Errno) {
	t.Helper()
	nextIs(t, b, at, read{e: want})
}

// scanIs fails, if Scan doesn't answer just these payloads and that place.
func scanIs(t *testing.T, b []byte, at int, want ...[]byte) {
	t.Helper()
	got, end := frame.Scan(b)
	if !slices.EqualFunc(got, want, bytes.Equal) || end != at {
		t.Errorf("Scan(%s): %d payloads %q, %d, not %d payloads, %d", brief(b), len(got), short(got), end, len(want), at)
	}
}

// brief tells bytes by a text that isn't long.
func brief(b []byte) string {
	if len(b) <= 40 {
		return fmt.Sprintf("[% x]", b)
	}
	return fmt.Sprintf("[% x ..]", b[:40])
}

// short tells the first ones of a list.
func short(l [][]byte) []string {
	var out []string
	for _, p := range l[:min(len(l), 9)] {
		out = append(out, brief(p))
	}
	return out
}

// drawn is n bytes by chance; the seeds are fixed, so that each run tests the same.
func drawn(r *rand.Rand, n int) []byte {
	p := make([]byte, n)
	r.Read(p)
	return p
}

// lengths are those at the edges of each byte of a frame's number, and of what may be.
func lengths() []int {
	return []int{1, 2, 3, 4, 5, 7, 8, 9, 31, 32, 127, 128, 129, 254, 255, 256, 257, 511, 512, 600, 1100, 8192, 65534, 65535, 65536, 65537, 65792, 131070, 131071, 131072}
}

// heads are what may stand ahead of a frame.
func heads() [][]byte {
	return [][]byte{nil, {}, {7}, {0, 0, 0, 0}, bytes.Repeat([]byte{255}, 100), whole([]byte("ahead")), whole([]byte("torn"))[:9]}
}

// TestNextAgainstModel asks for drawn bytes, right frames and spoilt ones, at each place of them and around.
func TestNextAgainstModel(t *testing.T) {
	r := rand.New(rand.NewSource(171))
	seen := map[api.Errno]int{}
	for range 3000 {
		b := some(r)
		for at := -2; at < len(b)+3; at++ {
			want := expected(b, at)
			nextIs(t, b, at, want)
			seen[want.e]++
		}
	}
	for _, e := range []api.Errno{api.OK, api.ErrArg, api.ErrShort, api.ErrForm, api.ErrSum} {
		if seen[e] < 1000 {
			t.Errorf("%d was met %d times", e, seen[e])
		}
	}
}

// TestScanAgainstModel goes by what Next must answer.
func TestScanAgainstModel(t *testing.T) {
	r := rand.New(rand.NewSource(172))
	for range 20000 {
		b := some(r)
		var want [][]byte
		at := 0
		for x := expected(b, at); x.e == api.OK; x = expected(b, at) {
			want = append(want, x.payload)
			at = x.end
		}
		scanIs(t, b, at, want...)
	}
}

// some is a few frames one behind the other; one of them may be spoilt, and anything may stand behind.
func some(r *rand.Rand) []byte {
	var b []byte
	for range r.Intn(5) {
		f := whole(drawn(r, 1+r.Intn(12)))
		switch r.Intn(8) {
		case 0:
			f[r.Intn(len(f))] ^= byte(1 + r.Intn(255))
		case 1:
			f = f[:r.Intn(len(f))]
		case 2:
			f[0] = byte(r.Intn(20))
		}
		b = append(b, f...)
	}
	if r.Intn(2) == 0 {
		b = append(b, make([]byte, r.Intn(9))...)
	}
	return append(b, drawn(r, r.Intn(3))...)
}
