package letter_test

import (
	"bytes"
	"math/rand"
	"testing"

	"impost/api"
	"impost/letter"
)

// P20.3

// drawnNumber is 1 to top: small, anything, or near to the top.
func drawnNumber(draw *rand.Rand, top int) int {
	switch draw.Intn(4) {
	case 0:
		return 1 + draw.Intn(min(top, 9))
	case 1:
		return top - draw.Intn(min(top, 3))
	}
	return 1 + draw.Intn(1+draw.Intn(top))
}

func drawnText(draw *rand.Rand, n int) string {
	b := make([]byte, n)
	for k := range b {
		b[k] = byte(draw.Intn(256))
	}
	return string(b)
}

// drawnLetter is right.
func drawnLetter(draw *rand.Rand, kind int) api.Letter {
	m := api.Letter{Kind: kind, From: draw.Intn(7), Term: drawnNumber(draw, topTerm)}
	m.To = (m.From + 1 + draw.Intn(6)) % 7
	switch kind {
	case isAsk:
		place(draw, &m, 0)
	case isVote:
		m.Yes = draw.Intn(2) == 0
	case isAppend:
		n := pick(draw, 0, 1, 2, 5, longBatch)
		place(draw, &m, n)
		m.Commit = drawnNumber(draw, topIndex+1) - 1
		for range n {
			m.Entries = append(m.Entries, drawnEntry(draw, m))
		}
	case isAck:
		m.Yes, m.Index = draw.Intn(2) == 0, drawnNumber(draw, topIndex+1)-1
	case isInstall:
		m.Index, m.At, m.Members, m.Size = drawnNumber(draw, topIndex), drawnNumber(draw, m.Term), drawnNumber(draw, allNodes), drawnNumber(draw, longImage)
		m.Off = drawnNumber(draw, m.Size) - 1
		m.Data = drawnText(draw, drawnNumber(draw, min(longPiece, m.Size-m.Off)))
	case isMore:
		m.Index, m.Off = drawnNumber(draw, topIndex), drawnNumber(draw, longImage+1)-1
	}
	return m
}

// place puts an Index and an At to m, both 0 or none, with room for n entries.
func place(draw *rand.Rand, m *api.Letter, n int) {
	if draw.Intn(5) > 0 {
		m.Index, m.At = drawnNumber(draw, topIndex-n), drawnNumber(draw, m.Term)
	}
}

// drawnEntry is one that may stand behind those of m.
func drawnEntry(draw *rand.Rand, m api.Letter) api.Entry {
	ahead := max(1, m.At)
	if n := len(m.Entries); n > 0 {
		ahead = m.Entries[n-1].Term
	}
	e := api.Entry{Term: ahead - 1 + drawnNumber(draw, m.Term-ahead+1)}
	if draw.Intn(2) == 0 {
		e.Term = ahead
	}
	if draw.Intn(4) == 0 {
		e.Members = drawnNumber(draw, allNodes)
		return e
	}
	e.Data = drawnText(draw, drawnNumber(draw, longEntry+1)-1)
	return e
}

// TestThereAndBack: Get of Put is the letter, and Put of that the bytes, for letters of each kind.
func TestThereAndBack(t *testing.T) {
	draw := rand.New(rand.NewSource(205))
	for kind := isAsk; kind <= isMore; kind++ {
		for range 4000 {
			m := drawnLetter(draw, kind)
			if why := wrong(m); why != "" || !letter.Right(m) {
				t.Fatalf("not right: %q: %s", why, brief(m))
			}
			b := goes(t, m)
			got, _ := letter.Get(b)
			if again := letter.Put(got); !bytes.Equal(again, b) {
				t.Fatalf("% x, then % x", b, again)
			}
		}
	}
}

// TestOneFormALetter: two letters that differ have bytes that do, and none are the beginning of another's.
func TestOneFormALetter(t *testing.T) {
	draw := rand.New(rand.NewSource(206))
	all := samples()
	for range 300 {
		m := drawnLetter(draw, 1+draw.Intn(6))
		all = append(all, turned(m))
		for range 3 {
			turnOne(draw, &m)
			if wrong(m) == "" {
				all = append(all, turned(m))
			}
		}
	}
	for i, a := range all {
		for _, b := range all[:i] {
			x, y := letter.Put(a), letter.Put(b)
			if same(a, b) != bytes.Equal(x, y) {
				t.Fatalf("%s and %s are written as % x and % x", brief(a), brief(b), x, y)
			}
			if len(x) != len(y) && (bytes.HasPrefix(x, y) || bytes.HasPrefix(y, x)) {
				t.Fatalf("% x and % x", x, y)
			}
		}
	}
}

// TestWhatIsTakenIsWritten: of drawn letters with bytes turned, what Get takes is what Put writes of it.
func TestWhatIsTakenIsWritten(t *testing.T) {
	draw := rand.New(rand.NewSource(207))
	met := map[api.Errno]int{}
	for range 40000 {
		b := written(drawnLetter(draw, 1+draw.Intn(6)))
		for range 1 + draw.Intn(2) {
			at := draw.Intn(len(b))
			if draw.Intn(2) == 0 {
				at = draw.Intn(min(len(b), 40))
			}
			b[at] ^= byte(1 << draw.Intn(8))
		}
		m, e := letter.Get(b)
		if e == api.OK && (!letter.Right(m) || !bytes.Equal(letter.Put(m), b)) {
			t.Fatalf("% x is %s, and that % x", b, brief(m), letter.Put(m))
		}
		if e != api.OK && !same(m, api.Letter{}) {
			t.Fatalf("% x is %d and %s", b, e, brief(m))
		}
		met[e]++
	}
	if len(met) != 5 || met[api.OK] < 1000 {
		t.Error(met)
	}
}
