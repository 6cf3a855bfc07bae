package frame_test

import (
	"bytes"
	"math/rand"
	"testing"

	"impost/api"
	"impost/frame"
)

// The table 'Runs'

func TestRuns(t *testing.T) {
	b := frame.Put(nil, []byte("ab"))
	if len(b) != 10 {
		t.Errorf("Put(nothing, ab) has %d bytes", len(b))
	}
	nextIs(t, b, 0, read{[]byte("ab"), 10, api.OK})
	refused(t, make([]byte, 8), 0, api.ErrForm)
	refused(t, b[:9], 0, api.ErrShort)
	scanIs(t, append(append(bytes.Clone(b), b...), 0), 20, []byte("ab"), []byte("ab"))
}

// P17.1

// TestPutKnown has frames whose every byte is written out.
func TestPutKnown(t *testing.T) {
	runs := []struct{ b, payload, want string }{
		{"", "ab", "\x02\x00\x00\x00ab\x6A\x63\x8E\x9E"},
		{"", "\x00", "\x01\x00\x00\x00\x00\x59\x0A\x6B\x95"},
		{"x", "123456789", "x\x09\x00\x00\x00123456789\xB7\x15\xFD\x89"},
		{"\x01\x00\x00\x00", "\xFF", "\x01\x00\x00\x00\x01\x00\x00\x00\xFF\x2B\x26\x39\x55"},
	}
	for _, r := range runs {
		if got := frame.Put([]byte(r.b), []byte(r.payload)); string(got) != r.want {
			t.Errorf("Put(%q, %q) = %q, not %q", r.b, r.payload, got, r.want)
		}
	}
}

// TestPutForm has payloads of all short lengths and of those at the edges, behind nothing and behind other bytes.
func TestPutForm(t *testing.T) {
	r := rand.New(rand.NewSource(173))
	all := lengths()
	for n := range 70 {
		all = append(all, n+1)
	}
	for _, n := range all {
		for _, p := range [][]byte{drawn(r, n), make([]byte, n), bytes.Repeat([]byte{255}, n)} {
			for _, b := range heads() {
				want := append(bytes.Clone(b), whole(p)...)
				if got := frame.Put(b, p); !bytes.Equal(got, want) {
					t.Fatalf("Put(%s, %d bytes): %s of %d bytes, not %s of %d", brief(b), n, brief(got), len(got), brief(want), len(want))
				}
			}
		}
	}
}

// TestPutNoFrame has payloads that may have none: b's bytes alone are answered.
func TestPutNoFrame(t *testing.T) {
	for _, p := range [][]byte{nil, {}, make([]byte, 0, 9), make([]byte, api.MaxFrame+1), make([]byte, api.MaxFrame+2), make([]byte, 2*api.MaxFrame), make([]byte, 1<<24), make([]byte, 1<<24+1)} {
		for _, b := range heads() {
			if got := frame.Put(b, p); !bytes.Equal(got, b) {
				t.Errorf("Put(%s, %d bytes): %s of %d bytes", brief(b), len(p), brief(got), len(got))
			}
		}
	}
}

// TestPutLongest has the longest payload, and one byte more.
func TestPutLongest(t *testing.T) {
	p := bytes.Repeat([]byte{5}, api.MaxFrame+1)
	got := frame.Put([]byte{9}, p[:api.MaxFrame])
	if len(got) != 1+4+131072+4 || !bytes.Equal(got[:6], []byte{9, 0, 0, 2, 0, 5}) {
		t.Errorf("%d bytes, %s", len(got), brief(got))
	}
	nextIs(t, got, 1, read{p[:api.MaxFrame], len(got), api.OK})
	if got := frame.Put([]byte{9}, p); !bytes.Equal(got, []byte{9}) {
		t.Errorf("%d bytes, %s", len(got), brief(got))
	}
}

// TestPutBehindAnother puts frames behind what Put answered, a payload that is refused between them.
func TestPutBehindAnother(t *testing.T) {
	b := frame.Put(nil, []byte("one"))
	b = frame.Put(b, nil)
	b = frame.Put(b, []byte{2})
	b = frame.Put(b, make([]byte, api.MaxFrame+1))
	b = frame.Put(b, b)
	one := frames([]byte("one"), []byte{2})
	if want := frames([]byte("one"), []byte{2}, one); !bytes.Equal(b, want) {
		t.Errorf("%s, not %s", brief(b), brief(want))
	}
}
