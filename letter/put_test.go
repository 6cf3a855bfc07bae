package letter_test

import (
	"bytes"
	"math/rand"
	"slices"
	"testing"

	"impost/api"
	"impost/letter"
)

// P20.2, Put

func TestRuns(t *testing.T) {
	m := api.Letter{Kind: api.MVote, To: 1, Term: 1, Yes: true}
	b := []byte{4, 0, 2, 2, 0, 0, 0, 0, 0, 0, 2, 0, 0}
	if got := letter.Put(m); !bytes.Equal(got, b) {
		t.Errorf("% x", got)
	}
	if got, e := letter.Get(b); e != api.OK || !same(got, m) {
		t.Error(brief(got), e)
	}
	refused(t, append(slices.Clip(b), 0), api.ErrTail)
	for _, m := range []api.Letter{{Kind: api.MVote, Term: 1}, {Kind: api.MVote, To: 1, Term: 1, Index: 1}} {
		if got := letter.Put(m); len(got) > 0 {
			t.Errorf("% x", got)
		}
	}
}

// hand is a letter and its bytes, both written out by hand.
type hand struct {
	m api.Letter
	b []byte
}

func byHand() []hand {
	return []hand{
		{ask(), []byte{0x02, 0x04, 0x0a, 0x12, 0x50, 0x0e, 0x00, 0x00, 0x00, 0x00, 0x00, 0x00, 0x00}},
		{vote(), []byte{0x04, 0x04, 0x0a, 0x12, 0x00, 0x00, 0x00, 0x00, 0x00, 0x00, 0x02, 0x00, 0x00}},
		{appends(), []byte{
			0x06, 0x04, 0x0a, 0x12, 0x50, 0x0e, 0x42, 0x00, 0x00, 0x00, 0x00, 0x00,
			0x08, // four entries
			0x0e, 0x00, 0x02, 'x',
			0x10, 0x2a, 0x00,
			0x10, 0x00, 0x00,
			0x12, 0x00, 0x04, 'y', 'z',
		}},
		{ack(), []byte{0x08, 0x04, 0x0a, 0x12, 0x50, 0x00, 0x00, 0x00, 0x00, 0x00, 0x02, 0x00, 0x00}},
		{install(), []byte{0x0a, 0x04, 0x0a, 0x12, 0x50, 0x0e, 0x00, 0x2a, 0x0a, 0x18, 0x00, 0x0a, 'p', 'i', 'e', 'c', 'e', 0x00}},
		{more(), []byte{0x0c, 0x04, 0x0a, 0x12, 0x50, 0x00, 0x00, 0x00, 0xb0, 0x09, 0x00, 0x00, 0x00, 0x00}},
		{
			api.Letter{Kind: api.MAppend, From: 6, Term: topTerm, Index: topIndex - 1, At: 64, Commit: topIndex, Entries: []api.Entry{of(topTerm, 127)}},
			[]byte{
				0x06, 0x0c, 0x00, 0x80, 0x80, 0x80, 0x80, 0x80, 0x40, 0xfe, 0xff, 0xff, 0xff, 0xff, 0x3f, 0x80, 0x01, 0x80, 0x80, 0x80, 0x80, 0x80, 0x40, 0x00, 0x00, 0x00, 0x00, 0x00,
				0x02, // an entry
				0x80, 0x80, 0x80, 0x80, 0x80, 0x40, 0xfe, 0x01, 0x00,
			},
		},
		{
			api.Letter{Kind: api.MInstall, From: 1, To: 6, Term: 200, Index: 8192, At: 63, Members: 127, Off: 65535, Size: 65536, Data: "\xff"},
			[]byte{0x0a, 0x02, 0x0c, 0x90, 0x03, 0x80, 0x80, 0x01, 0x7e, 0x00, 0xfe, 0x01, 0xfe, 0xff, 0x07, 0x80, 0x80, 0x08, 0x00, 0x02, 0xff, 0x00},
		},
		{api.Letter{Kind: api.MAck, From: 3, To: 4, Term: 1}, []byte{0x08, 0x06, 0x08, 0x02, 0x00, 0x00, 0x00, 0x00, 0x00, 0x00, 0x00, 0x00, 0x00}},
	}
}

func TestPutByHand(t *testing.T) {
	for k, c := range byHand() {
		if got := letter.Put(c.m); !bytes.Equal(got, c.b) {
			t.Errorf("%d: % x, not\n% x", k, got, c.b)
		}
	}
}

// TestEachFieldIsWritten changes each field by itself, in a letter where it may be another one, and looks at the bytes that change with it.
func TestEachFieldIsWritten(t *testing.T) {
	for i, c := range []struct {
		k       int
		turn    func(m *api.Letter)
		at      int
		was, is []byte
	}{
		{1, func(m *api.Letter) { m.Kind = api.MAck }, 0, []byte{4}, []byte{8}},
		{1, func(m *api.Letter) { m.From = 6 }, 1, []byte{4}, []byte{12}},
		{1, func(m *api.Letter) { m.To = 0 }, 2, []byte{10}, []byte{0}},
		{1, func(m *api.Letter) { m.Term = 64 }, 3, []byte{18}, []byte{0x80, 1}},
		{1, func(m *api.Letter) { m.Yes = false }, 10, []byte{2}, []byte{0}},
		{0, func(m *api.Letter) { m.Index = 1 }, 4, []byte{0x50}, []byte{2}},
		{0, func(m *api.Letter) { m.At = 9 }, 5, []byte{14}, []byte{18}},
		{2, func(m *api.Letter) { m.Commit = 0 }, 6, []byte{0x42}, []byte{0}},
		{2, func(m *api.Letter) { m.Entries = m.Entries[:1] }, 12, []byte("\x08\x0e\x00\x02x\x10\x2a\x00\x10\x00\x00\x12\x00\x04yz"), []byte("\x02\x0e\x00\x02x")},
		{2, func(m *api.Letter) { m.Entries = nil }, 12, []byte("\x08\x0e\x00\x02x\x10\x2a\x00\x10\x00\x00\x12\x00\x04yz"), []byte{0}},
		{2, func(m *api.Letter) { m.Entries[0].Term = 8 }, 13, []byte{14}, []byte{16}},
		{2, func(m *api.Letter) { m.Entries[0].Data = "" }, 15, []byte{2, 'x'}, []byte{0}},
		{2, func(m *api.Letter) { m.Entries[1].Members = 127 }, 18, []byte{0x2a}, []byte{0xfe, 1}},
		{2, func(m *api.Letter) { m.Entries[2].Members = 1 }, 21, []byte{0}, []byte{2}},
		{2, func(m *api.Letter) { m.Entries[2].Data = "\x00" }, 22, []byte{0}, []byte{2, 0}},
		{2, func(m *api.Letter) { m.Entries[3].Data = "yx" }, 27, []byte("z"), []byte("x")},
		{4, func(m *api.Letter) { m.Members = 1 }, 7, []byte{0x2a}, []byte{2}},
		{4, func(m *api.Letter) { m.Off = 0 }, 8, []byte{10}, []byte{0}},
		{4, func(m *api.Letter) { m.Size = 600 }, 9, []byte{24}, []byte{0xb0, 9}},
		{4, func(m *api.Letter) { m.Data = "p" }, 11, []byte("\x0apiece"), []byte("\x02p")},
		{5, func(m *api.Letter) { m.Off = 1 }, 8, []byte{0xb0, 9}, []byte{2}},
	} {
		h := byHand()[c.k]
		if !bytes.Equal(h.b[c.at:c.at+len(c.was)], c.was) {
			t.Fatalf("%d: % x at %d", i, h.b[c.at:], c.at)
		}
		want := slices.Concat(h.b[:c.at], c.is, h.b[c.at+len(c.was):])
		if got := goes(t, turned(h.m, c.turn)); !bytes.Equal(got, want) {
			t.Errorf("%d: % x, not\n% x", i, got, want)
		}
	}
}

// TestPutOfSamples: bytes as the model has them, as many as they must be at the limits.
func TestPutOfSamples(t *testing.T) {
	for _, m := range samples() {
		goes(t, m)
	}
	full := turned(batch(longBatch), func(m *api.Letter) {
		for k := range m.Entries {
			m.Entries[k].Data = text(longEntry)
		}
	})
	if n := len(goes(t, full)); n != 13+longBatch*(4+longEntry) {
		t.Error(n)
	}
	if n := len(goes(t, piece(0, longPiece, longPiece))); n != 15+longPiece {
		t.Error(n)
	}
}

// TestPutOfWhatIsNotRight: there are no bytes of it.
func TestPutOfWhatIsNotRight(t *testing.T) {
	draw := rand.New(rand.NewSource(202))
	none := 0
	for range 50000 {
		m := kinds()[draw.Intn(6)]
		for range 1 + draw.Intn(3) {
			turnOne(draw, &m)
		}
		if wrong(m) == "" {
			goes(t, m)
			continue
		}
		none++
		if b := letter.Put(m); len(b) > 0 {
			t.Fatalf("Put of %s: % x", brief(m), b)
		}
	}
	if none < 10000 || none > 45000 {
		t.Error(none)
	}
}
