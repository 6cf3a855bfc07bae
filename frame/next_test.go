package frame_test

import (
	"bytes"
	"encoding/binary"
	"hash/crc32"
	"math/rand"
	"testing"

	"impost/api"
	"impost/frame"
)

// P17.2

// TestNextOfEachFrame has several frames one behind the other, and other bytes ahead of them and behind.
func TestNextOfEachFrame(t *testing.T) {
	r := rand.New(rand.NewSource(174))
	for _, head := range heads() {
		for _, tail := range heads() {
			b, at := bytes.Clone(head), len(head)
			var all [][]byte
			for _, n := range []int{1, 2, 3, 40, 255, 256, 300} {
				all = append(all, drawn(r, n))
				b = append(b, whole(all[len(all)-1])...)
			}
			b = append(b, tail...)
			for _, p := range all {
				nextIs(t, b, at, read{p, at + len(p) + 8, api.OK})
				at += len(p) + 8
			}
		}
	}
}

func TestNextOfEachLength(t *testing.T) {
	r := rand.New(rand.NewSource(175))
	for _, n := range lengths() {
		p := drawn(r, n)
		nextIs(t, whole(p), 0, read{p, n + 8, api.OK})
		nextIs(t, append([]byte{1, 2, 3}, whole(p)...), 3, read{p, n + 11, api.OK})
	}
}

// TestNextNoPlace has places that b doesn't have, whatever it holds.
func TestNextNoPlace(t *testing.T) {
	for _, b := range append(heads(), make([]byte, 8), make([]byte, 0, 50), frames([]byte("a"), []byte("b"))) {
		n := len(b)
		for _, at := range []int{least, least + 1, -1 << 32, -1 << 31, -n - 1, -8, -4, -1, n + 1, n + 2, n + 4, n + 8, 1 << 31, 1 << 32, most - 8, most - 7, most - 4, most - 1, most} {
			refused(t, b, at, api.ErrArg)
		}
		refused(t, b, n, api.ErrShort)
	}
}

// TestNextFewLeft has less than a number there, and just one.
func TestNextFewLeft(t *testing.T) {
	for _, v := range []byte{0, 1, 2, 255} {
		for n := range 4 {
			refused(t, bytes.Repeat([]byte{v}, n), 0, api.ErrShort)
			refused(t, append(whole([]byte("ab")), bytes.Repeat([]byte{v}, n)...), 10, api.ErrShort)
		}
	}
	refused(t, nil, 0, api.ErrShort)
	refused(t, []byte{}, 0, api.ErrShort)
	refused(t, []byte{1, 0, 0}, 0, api.ErrShort)
	refused(t, []byte{1, 0, 0, 0}, 0, api.ErrShort)
	refused(t, []byte{0, 0, 0, 0}, 0, api.ErrForm)
	refused(t, []byte{0, 0, 0}, 0, api.ErrShort)
	refused(t, []byte{0, 0, 2, 0}, 0, api.ErrShort)
	refused(t, []byte{1, 0, 2, 0}, 0, api.ErrForm)
	refused(t, []byte{255, 255, 255, 255}, 0, api.ErrForm)
	refused(t, []byte{255, 255, 255}, 0, api.ErrShort)
}

// TestNextNumberThatCannotBe has the sum right all the same, and as many bytes as are asked for where that is few enough.
func TestNextNumberThatCannotBe(t *testing.T) {
	bad := []uint32{0, api.MaxFrame + 1, api.MaxFrame + 2, 1<<17 | 1<<16, 1 << 18, 1 << 24, 1<<24 + 1, 1<<31 - 1, 1 << 31, 1<<31 + 1, 1<<31 | 2, 1<<32 - 8, 1<<32 - 5, 1<<32 - 4, 1<<32 - 2, 1<<32 - 1}
	for _, n := range bad {
		for _, left := range []int{0, 1, 2, 4, 8, 300} {
			head := framed(n, make([]byte, left), 0)
			head = head[:len(head)-4]
			refused(t, head, 0, api.ErrForm)
			refused(t, binary.LittleEndian.AppendUint32(head, koopman(head)), 0, api.ErrForm)
		}
	}
	refused(t, whole(nil), 0, api.ErrForm)
	refused(t, whole(make([]byte, api.MaxFrame+1)), 0, api.ErrForm)
	refused(t, append([]byte("xyz"), whole(make([]byte, api.MaxFrame+1))...), 3, api.ErrForm)
}

// TestNextEachByteOfTheNumber puts each byte to each of the number's places, where there are three bytes behind it.
func TestNextEachByteOfTheNumber(t *testing.T) {
	for place := range 4 {
		for v := range 256 {
			b := make([]byte, 7)
			b[place] = byte(v)
			want := api.ErrForm
			if n := uint64(v) << (8 * place); n >= 1 && n <= 131072 {
				want = api.ErrShort
			}
			refused(t, b, 0, want)
		}
	}
}

// TestNextAsManyAsAsked has just the bytes that the number and four ask for, one less, and more.
func TestNextAsManyAsAsked(t *testing.T) {
	r := rand.New(rand.NewSource(176))
	for _, n := range lengths() {
		p := drawn(r, n)
		f := whole(p)
		nextIs(t, f, 0, read{p, n + 8, api.OK})
		for _, less := range []int{1, 2, 3, 4, 5, n/2 + 4, n + 3, n + 4} {
			refused(t, f[:n+8-min(less, n+4)], 0, api.ErrShort)
		}
		for _, more := range []int{1, 4, 8} {
			nextIs(t, append(bytes.Clone(f), make([]byte, more)...), 0, read{p, n + 8, api.OK})
		}
	}
}

// TestNextCutAnywhere leaves each number of a frame's bytes, behind nothing and behind another frame.
func TestNextCutAnywhere(t *testing.T) {
	p := []byte("a payload")
	b := frames([]byte("ahead"), p)
	for at, f := range map[int][]byte{0: whole(p), 13: b} {
		for n := at; n < len(f); n++ {
			refused(t, f[:n], at, api.ErrShort)
		}
		nextIs(t, f, at, read{p, len(f), api.OK})
	}
}

// TestNextOtherSum puts each other byte to each place of the sum.
func TestNextOtherSum(t *testing.T) {
	for _, p := range [][]byte{{0}, []byte("ab"), make([]byte, 300)} {
		f := whole(p)
		for k := len(f) - 4; k < len(f); k++ {
			for v := range 256 {
				x := bytes.Clone(f)
				x[k] = byte(v)
				if x[k] == f[k] {
					nextIs(t, x, 0, read{p, len(f), api.OK})
					continue
				}
				refused(t, x, 0, api.ErrSum)
			}
		}
	}
}

// TestNextSumOfOtherBytes has sums of less and more than the number and the payload, and by other rules.
func TestNextSumOfOtherBytes(t *testing.T) {
	p := []byte("123456789")
	good := whole(p)
	body := good[:13]
	c := koopman(body)
	for name, other := range map[string]uint32{
		"the payload's":         koopman(p),
		"the number's":          koopman(body[:4]),
		"without the last byte": koopman(body[:12]),
		"with four more":        koopman(append(bytes.Clone(body), 0, 0, 0, 0)),
		"turned":                ^c,
		"the highest first":     c>>24 | c>>8&0xFF00 | c<<8&0xFF0000 | c<<24,
		"none":                  0,
		"another polynomial's":  crc32.ChecksumIEEE(body),
	} {
		if got, end, e := frame.Next(framed(9, p, other), 0); len(got) != 0 || end != 0 || e != api.ErrSum {
			t.Errorf("%s: %s, %d, %d", name, brief(got), end, e)
		}
	}
	nextIs(t, framed(9, p, c), 0, read{p, 17, api.OK})
}

// TestNextOrder has bytes to which several refusals apply: the first of them is the answer.
func TestNextOrder(t *testing.T) {
	long, small := uint32(api.MaxFrame+1), []byte{1, 2}
	runs := []struct {
		name string
		b    []byte
		at   int
		want api.Errno
	}{
		{"no place, nothing there", nil, -1, api.ErrArg},
		{"no place, nothing there, behind", nil, 1, api.ErrArg},
		{"no place, few bytes", []byte{0, 0}, 3, api.ErrArg},
		{"no place, a number 0", make([]byte, 9), -1, api.ErrArg},
		{"no place, too great a number", framed(long, small, 0), -1, api.ErrArg},
		{"no place, the sum is wrong", framed(2, small, 0), -1, api.ErrArg},
		{"few bytes, a number that would be 0", []byte{0, 0, 0}, 0, api.ErrShort},
		{"few bytes, a number that would be too great", []byte{0, 0, 255}, 0, api.ErrShort},
		{"0, few bytes behind", []byte{0, 0, 0, 0, 9}, 0, api.ErrForm},
		{"0, the sum is wrong", framed(0, nil, 1), 0, api.ErrForm},
		{"too great, few bytes behind", framed(long, small, 0), 0, api.ErrForm},
		{"too great, enough behind, the sum is wrong", framed(long, make([]byte, long), 0), 0, api.ErrForm},
		{"few bytes behind, the sum is wrong", framed(3, small, 0), 0, api.ErrShort},
		{"few bytes behind, their last four a sum", framed(3, small, koopman([]byte{3, 0, 0, 0, 1, 2})), 0, api.ErrShort},
		{"the longest, few bytes behind", framed(api.MaxFrame, small, 0), 0, api.ErrShort},
		{"the longest, one byte less", framed(api.MaxFrame, make([]byte, api.MaxFrame-1), 0), 0, api.ErrShort},
		{"the longest, the sum is wrong", framed(api.MaxFrame, make([]byte, api.MaxFrame), 0), 0, api.ErrSum},
		{"the sum alone", framed(2, small, 0), 0, api.ErrSum},
	}
	for _, r := range runs {
		p, end, e := frame.Next(r.b, r.at)
		if len(p) != 0 || end != 0 || e != r.want {
			t.Errorf("%s: %s, %d, %d, not %d", r.name, brief(p), end, e, r.want)
		}
	}
}

// TestNextLooksNoFurtherThanTheFrame turns each byte ahead of a frame and behind it.
func TestNextLooksNoFurtherThanTheFrame(t *testing.T) {
	b := frames([]byte("ahead"), []byte("it"), []byte("behind"))
	from, end := 13, 23
	for k := range b {
		if k >= from && k < end {
			continue
		}
		x := bytes.Clone(b)
		x[k] ^= 0xFF
		nextIs(t, x, from, read{[]byte("it"), end, api.OK})
	}
}

// TestNextFrameInAPayload has a frame within a frame: where it begins, it is one like any other.
func TestNextFrameInAPayload(t *testing.T) {
	in := whole([]byte("in"))
	b := whole(in)
	nextIs(t, b, 0, read{in, 18, api.OK})
	nextIs(t, b, 4, read{[]byte("in"), 14, api.OK})
	scanIs(t, b, 18, in)
}
