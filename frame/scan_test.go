package frame_test

import (
	"bytes"
	"math/rand"
	"testing"

	"impost/api"
	"impost/frame"
)

// P17.3

func TestScanOfNothing(t *testing.T) {
	scanIs(t, nil, 0)
	scanIs(t, []byte{}, 0)
	scanIs(t, make([]byte, 0, 50), 0)
	// a whole frame stands there, but as spare room
	scanIs(t, whole([]byte("ab"))[:0], 0)
}

// TestScanOfWholeFrames answers them all, and the end.
func TestScanOfWholeFrames(t *testing.T) {
	r := rand.New(rand.NewSource(177))
	var b []byte
	var all [][]byte
	for _, n := range lengths() {
		all = append(all, drawn(r, n))
		b = append(b, whole(all[len(all)-1])...)
		scanIs(t, b, len(b), all...)
	}
}

// TestScanOfManyFrames has more than a list's room grows to at once.
func TestScanOfManyFrames(t *testing.T) {
	var b []byte
	var all [][]byte
	for k := range 3000 {
		all = append(all, []byte{byte(k), byte(k >> 8)})
		b = append(b, whole(all[k])...)
	}
	scanIs(t, b, 30000, all...)
}

// TestScanWithSomethingBehind has bytes behind the frames that Next refuses, each for another reason.
func TestScanWithSomethingBehind(t *testing.T) {
	turned := whole([]byte("turned"))
	turned[6] ^= 4
	otherSum := whole([]byte("turned"))
	otherSum[13] ^= 1
	tails := map[string][]byte{
		"one byte":                {0},
		"three bytes":             {1, 0, 0},
		"a number":                {1, 0, 0, 0},
		"noughts":                 make([]byte, 50),
		"a number that can't be":  bytes.Repeat([]byte{255}, 50),
		"too long a frame":        whole(make([]byte, api.MaxFrame+1)),
		"a torn frame":            whole([]byte("torn"))[:11],
		"a frame's first byte":    whole([]byte("torn"))[:1],
		"a frame without its sum": whole([]byte("torn"))[:8],
		"a turned frame":          turned,
		"a turned sum":            otherSum,
	}
	for name, tail := range tails {
		var b []byte
		var all [][]byte
		for k := range 4 {
			got, at := frame.Scan(append(bytes.Clone(b), tail...))
			if len(got) != k || at != len(b) {
				t.Errorf("%s behind %d frames: %d, %d, not %d", name, k, len(got), at, len(b))
			}
			scanIs(t, append(bytes.Clone(b), tail...), len(b), all...)
			all = append(all, bytes.Repeat([]byte{byte(k + 1)}, 3*k+1))
			b = append(b, whole(all[k])...)
		}
	}
}

// TestScanStopsAtTheFirst has frames that are whole behind one that isn't: they aren't told.
func TestScanStopsAtTheFirst(t *testing.T) {
	one, two, three := []byte("one"), []byte("second"), []byte("3")
	b := frames(one, two, three)
	for k := 15; k < 25; k++ {
		x := bytes.Clone(b)
		x[k] ^= 0x10
		scanIs(t, x, 11, one)
		nextIs(t, x, 25, read{three, 34, api.OK})
	}
	for n := range len(whole(two)) {
		// a beginning of the second frame, and the third behind it
		x := append(append(whole(one), whole(two)[:n]...), whole(three)...)
		if n == 0 {
			scanIs(t, x, 20, one, three)
			continue
		}
		scanIs(t, x, 11, one)
	}
	x := append([]byte{0}, b...)
	scanIs(t, x, 0)
}

// TestScanBeginsAtTheFirstByte turns each byte of the first frame.
func TestScanBeginsAtTheFirstByte(t *testing.T) {
	b := frames([]byte("first"), []byte("second"))
	for k := range 13 {
		x := bytes.Clone(b)
		x[k] ^= 0x80
		scanIs(t, x, 0)
	}
	scanIs(t, b[13:], 14, []byte("second"))
}

// TestScanIsNextAgainAndAgain holds Scan against Next, whatever stands there.
func TestScanIsNextAgainAndAgain(t *testing.T) {
	r := rand.New(rand.NewSource(178))
	for range 5000 {
		b := some(r)
		l, end := frame.Scan(b)
		at := 0
		for _, p := range l {
			nextIs(t, b, at, read{p, at + len(p) + 8, api.OK})
			at += len(p) + 8
		}
		if _, _, e := frame.Next(b, end); at != end || e == api.OK || e == api.ErrArg {
			t.Fatalf("Scan(%s): %d, not %d, where Next says %d", brief(b), end, at, e)
		}
	}
}
