package frame_test

import (
	"bytes"
	"math/rand"
	"slices"
	"testing"
	"unsafe"

	"impost/api"
	"impost/frame"
)

// R1, R2, R4, R5

// roomy is p with spare room that has something in it.
func roomy(p []byte) []byte {
	out := append(make([]byte, 0, len(p)+40), p...)
	for k := len(p); k < cap(out); k++ {
		out[:cap(out)][k] = 0x77
	}
	return out
}

// spoil turns all bytes of p, its spare room too.
func spoil(p []byte) {
	for k := range p[:cap(p)] {
		p[:cap(p)][k] ^= 0xFF
	}
}

// apart tells whether two lists share no memory, their spare room included.
func apart(a, b []byte) bool {
	if cap(a) == 0 || cap(b) == 0 {
		return true
	}
	from, from2 := uintptr(unsafe.Pointer(unsafe.SliceData(a))), uintptr(unsafe.Pointer(unsafe.SliceData(b)))
	return from+uintptr(cap(a)) <= from2 || from2+uintptr(cap(b)) <= from
}

// payloads are some that have frames, and some that don't.
func payloads() [][]byte {
	r := rand.New(rand.NewSource(183))
	all := [][]byte{nil, {}, make([]byte, api.MaxFrame+1), drawn(r, api.MaxFrame)}
	for n := range 40 {
		all = append(all, drawn(r, n+1))
	}
	return all
}

// TestPutLeavesWhatIsHandedIn turns what is answered, and looks at what was handed in, with its spare room.
func TestPutLeavesWhatIsHandedIn(t *testing.T) {
	for _, head := range heads() {
		for _, payload := range payloads() {
			b, p := roomy(head), roomy(payload)
			wasB, wasP := slices.Clone(b[:cap(b)]), slices.Clone(p[:cap(p)])
			got, other := frame.Put(b, p), frame.Put(b, p)
			want := slices.Clone(got)
			if !bytes.Equal(b[:cap(b)], wasB) || !bytes.Equal(p[:cap(p)], wasP) {
				t.Fatalf("Put(%s, %s) changed them", brief(head), brief(payload))
			}
			if !apart(got, b) || !apart(got, p) || !apart(got, other) {
				t.Fatalf("Put(%s, %s) shares memory", brief(head), brief(payload))
			}
			spoil(got)
			if !bytes.Equal(b[:cap(b)], wasB) || !bytes.Equal(p[:cap(p)], wasP) || !bytes.Equal(other, want) {
				t.Fatalf("Put(%s, %s): turned, it turns others", brief(head), brief(payload))
			}
			spoil(b)
			spoil(p)
			if !bytes.Equal(other, want) {
				t.Fatalf("Put(%s, %s) keeps what was handed in", brief(head), brief(payload))
			}
		}
	}
}

// TestPutOfItself has b and the payload share memory, the one within the other, and in its spare room.
func TestPutOfItself(t *testing.T) {
	all := []byte("0123456789abcdefghijklmnopqrstuvwxyz")
	for _, c := range [][4]int{{0, 9, 0, 9}, {0, 9, 3, 5}, {3, 5, 0, 9}, {0, 3, 3, 9}, {0, 3, 5, 36}, {0, 0, 0, 5}, {5, 9, 0, 36}, {0, 9, 5, 20}, {0, 3, 2, 2}} {
		own := slices.Clone(all)
		got := frame.Put(own[c[0]:c[1]], own[c[2]:c[3]])
		want := bytes.Clone(all[c[0]:c[1]])
		if c[2] < c[3] {
			want = append(want, whole(all[c[2]:c[3]])...)
		}
		if !bytes.Equal(got, want) || !bytes.Equal(own, all) || !apart(got, own) {
			t.Errorf("%v: %s, not %s; %q", c, brief(got), brief(want), own)
		}
	}
}

// TestPutToOneTwice puts two frames behind one list: each answer stands alone.
func TestPutToOneTwice(t *testing.T) {
	b := roomy(frames([]byte("ahead")))
	one, two := frame.Put(b, []byte("one")), frame.Put(b, []byte("other"))
	scanIs(t, one, 24, []byte("ahead"), []byte("one"))
	scanIs(t, two, 26, []byte("ahead"), []byte("other"))
	scanIs(t, b, 13, []byte("ahead"))
}

// TestNextLeavesWhatIsHandedIn has all of its answers, and turns the payload.
func TestNextLeavesWhatIsHandedIn(t *testing.T) {
	turned := frames([]byte("turned"), []byte("b"))
	turned[5] ^= 1
	for _, whatever := range append(heads(), make([]byte, 20), turned, frames([]byte("a"), []byte("bc"), make([]byte, 300)), whole(make([]byte, api.MaxFrame))) {
		b := roomy(whatever)
		was := slices.Clone(b[:cap(b)])
		for at := -1; at < min(len(b), 500)+2; at++ {
			got, end, e := frame.Next(b, at)
			other, _, _ := frame.Next(b, at)
			want := slices.Clone(got)
			if !apart(got, b) || !apart(got, other) {
				t.Fatalf("Next(%s, %d) shares memory", brief(b), at)
			}
			spoil(got)
			if !bytes.Equal(b[:cap(b)], was) || !bytes.Equal(other, want) {
				t.Fatalf("Next(%s, %d): %d, %d: turned, it turns others", brief(b), at, end, e)
			}
			spoil(b)
			if !bytes.Equal(other, want) {
				t.Fatalf("Next keeps what was handed in, at %d", at)
			}
			spoil(b)
		}
	}
}

// TestScanLeavesWhatIsHandedIn turns one payload after the other, and the list of them with its spare room.
func TestScanLeavesWhatIsHandedIn(t *testing.T) {
	var b []byte
	for k := range 20 {
		tail := roomy(append(bytes.Clone(b), 1, 2, 3))
		was := slices.Clone(tail[:cap(tail)])
		l, at := frame.Scan(tail)
		other, _ := frame.Scan(tail)
		if len(l) != k || at != len(b) || !bytes.Equal(tail[:cap(tail)], was) {
			t.Fatalf("%d, %d", len(l), at)
		}
		each(t, l, other, tail)
		want := copies(other)
		full := l[:cap(l)]
		for j := range full {
			full[j] = []byte("zzz")
		}
		_ = append(l[:k/2], nil)
		spoil(tail)
		if !slices.EqualFunc(other, want, bytes.Equal) {
			t.Fatalf("%q, not %q", short(other), short(want))
		}
		b = append(b, whole(bytes.Repeat([]byte{byte(k)}, k%5+1))...)
	}
}

// TestScanOfEqualPayloads has payloads that are the same: each has memory of its own nonetheless.
func TestScanOfEqualPayloads(t *testing.T) {
	for _, p := range [][]byte{{0}, {7}, []byte("same"), make([]byte, 300)} {
		b := frames(p, p, p, p)
		l, _ := frame.Scan(b)
		other, at := frame.Scan(b)
		if len(l) != 4 || len(other) != 4 || at != len(b) {
			t.Fatalf("%d, %d, %d", len(l), len(other), at)
		}
		each(t, l, other, b)
		scanIs(t, b, len(b), other...)
	}
}

// copies are lists of the same bytes in other memory.
func copies(l [][]byte) [][]byte {
	var out [][]byte
	for _, p := range l {
		out = append(out, bytes.Clone(p))
	}
	return out
}

// each fails, if a payload of l shares memory with what was handed in, another one of it, or one of the other answer.
func each(t *testing.T, l, other [][]byte, b []byte) {
	t.Helper()
	for k, p := range l {
		if !apart(p, b) || !apart(p, other[k]) {
			t.Fatalf("the payload %d shares memory", k)
		}
		for j, q := range l[:k] {
			if !apart(p, q) {
				t.Fatalf("the payloads %d and %d share memory", j, k)
			}
		}
		was, rest := bytes.Clone(b[:cap(b)]), copies(l[k+1:])
		spoil(p)
		if !bytes.Equal(b[:cap(b)], was) || !slices.EqualFunc(l[k+1:], rest, bytes.Equal) {
			t.Fatalf("the payload %d, turned, turns others", k)
		}
	}
}

// TestSpareRoomIsNotRead has the rest of a frame behind what is handed in (R5).
func TestSpareRoomIsNotRead(t *testing.T) {
	f := whole([]byte("ab"))
	for n := range 10 {
		refused(t, f[:n], 0, api.ErrShort)
		scanIs(t, f[:n], 0)
		refused(t, f[:n], n+1, api.ErrArg)
	}
	all := []byte("payload")
	for n := range len(all) {
		want := append([]byte("he"), whole(all[:n+1])...)
		if got := frame.Put([]byte("head")[:2], all[:n+1]); !bytes.Equal(got, want) {
			t.Errorf("%s, not %s", brief(got), brief(want))
		}
	}
	if got := frame.Put([]byte("head")[:2], all[:0]); string(got) != "he" {
		t.Errorf("%q", got)
	}
}

// TestNilAndEmptyAreTheSame holds the answers to both against each other (R4).
func TestNilAndEmptyAreTheSame(t *testing.T) {
	for _, none := range [][]byte{nil, {}, make([]byte, 0, 9)} {
		if got := frame.Put(none, none); len(got) != 0 {
			t.Errorf("Put of nothing: %s", brief(got))
		}
		if got := frame.Put(none, []byte("ab")); !bytes.Equal(got, whole([]byte("ab"))) {
			t.Errorf("Put(nothing, ab): %s", brief(got))
		}
		if got := frame.Put([]byte("ab"), none); string(got) != "ab" {
			t.Errorf("Put(ab, nothing): %s", brief(got))
		}
		for at, want := range map[int]api.Errno{least: api.ErrArg, -1: api.ErrArg, 0: api.ErrShort, 1: api.ErrArg, 4: api.ErrArg, most: api.ErrArg} {
			refused(t, none, at, want)
		}
		scanIs(t, none, 0)
	}
}

// TestAskedAgain has the same answers to the same questions, whatever was asked between (R4).
func TestAskedAgain(t *testing.T) {
	r := rand.New(rand.NewSource(184))
	b := frames([]byte("one"), []byte("two"))
	for range 200 {
		frame.Put(some(r), some(r))
		frame.Scan(some(r))
		frame.Next(some(r), r.Intn(9))
		scanIs(t, b, 22, []byte("one"), []byte("two"))
		nextIs(t, b, 11, read{[]byte("two"), 22, api.OK})
		if got := frame.Put(b[:11], []byte("two")); !bytes.Equal(got, b) {
			t.Fatal(brief(got))
		}
	}
}

// TestNothingPanics asks for anything at any place (R1).
func TestNothingPanics(t *testing.T) {
	r := rand.New(rand.NewSource(185))
	numbers := []int{least, least + 1, -1 << 32, -9, -1, 0, 1, 2, 3, 4, 5, 8, 9, 1 << 17, 1 << 31, 1<<31 - 1, 1 << 32, most - 1, most}
	for range 20000 {
		b := drawn(r, r.Intn(30))
		if r.Intn(2) == 0 && len(b) >= 4 {
			b[1], b[2], b[3] = 0, byte(r.Intn(3)), 0
		}
		for _, at := range numbers {
			nextIs(t, b, at, expected(b, at))
		}
		frame.Scan(b)
		frame.Put(b, b)
	}
}
