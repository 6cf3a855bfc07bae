package letter_test

import (
	"bytes"
	"math/rand"
	"slices"
	"testing"

	"impost/api"
	"impost/letter"
)

// P20.2, Get

func TestGetByHand(t *testing.T) {
	for k, c := range byHand() {
		if m, e := letter.Get(c.b); e != api.OK || !same(m, c.m) {
			t.Errorf("%d: %s, %d, not\n%s", k, brief(m), e, brief(c.m))
		}
	}
}

// TestCuts: each shorter beginning ends too early.
func TestCuts(t *testing.T) {
	for _, m := range samples() {
		b := written(m)
		for n := range b {
			refused(t, b[:n], api.ErrShort)
		}
	}
	refused(t, nil, api.ErrShort)
	refused(t, []byte{}, api.ErrShort)
}

// TestTails: whatever stands behind the end, it is told ahead of what can't be.
func TestTails(t *testing.T) {
	for _, m := range append(samples(), notRight()...) {
		b := slices.Clip(written(m))
		for _, x := range []byte{0, 1, 2, 0x7f, 0x80, 0xff} {
			refused(t, append(b, x), api.ErrTail)
		}
		refused(t, append(b, b...), api.ErrTail)
		refused(t, append(b, make([]byte, 1000)...), api.ErrTail)
	}
}

// notRight are letters that are read, but aren't right.
func notRight() []api.Letter {
	out := []api.Letter{{}, {Kind: isVote}, {Kind: isVote, Term: 1}, {Kind: isVote, To: 1}, {To: 1, Term: 1}, {Kind: 7, To: 1, Term: 1}}
	add := func(m api.Letter, turns ...func(m *api.Letter)) {
		for _, turn := range turns {
			out = append(out, turned(m, turn))
		}
	}
	for _, m := range kinds() {
		add(m,
			func(m *api.Letter) { m.Kind = 0 }, func(m *api.Letter) { m.Kind = 7 }, func(m *api.Letter) { m.Kind = -m.Kind },
			func(m *api.Letter) { m.From = 5 }, func(m *api.Letter) { m.From = -1 }, func(m *api.Letter) { m.From = 7 }, func(m *api.Letter) { m.To = 2 }, func(m *api.Letter) { m.To = -1 }, func(m *api.Letter) { m.To = 7 },
			func(m *api.Letter) { m.Term = 0 }, func(m *api.Letter) { m.Term = topTerm + 1 }, func(m *api.Letter) { m.Index = -1 }, func(m *api.Letter) { m.Index = topIndex + 1 }, func(m *api.Letter) { m.At = -1 }, func(m *api.Letter) { m.At = 10 }, func(m *api.Letter) { m.Commit = -1 }, func(m *api.Letter) { m.Commit = topIndex + 1 },
		)
		for _, other := range kinds() {
			if other.Kind == m.Kind {
				continue
			}
			// a field that the other kind names is put to a letter whose kind doesn't
			for _, turn := range []func(m *api.Letter){
				func(m *api.Letter) { m.Index = other.Index }, func(m *api.Letter) { m.At = other.At }, func(m *api.Letter) { m.Commit = other.Commit }, func(m *api.Letter) { m.Members = other.Members }, func(m *api.Letter) { m.Off = other.Off }, func(m *api.Letter) { m.Size = other.Size },
				func(m *api.Letter) { m.Yes = other.Yes }, func(m *api.Letter) { m.Data = other.Data }, func(m *api.Letter) { m.Entries = other.Entries },
			} {
				if x := turned(m, turn); unnamed(x) != "" {
					out = append(out, x)
				}
			}
		}
	}
	add(ask(), func(m *api.Letter) { m.Index = 0 }, func(m *api.Letter) { m.At = 0 })
	add(appends(), func(m *api.Letter) { m.Index = 0 }, func(m *api.Letter) { m.At = 0 }, func(m *api.Letter) { m.At = 8 }, func(m *api.Letter) { m.Index = topIndex - 3 },
		func(m *api.Letter) { m.Entries[0].Term = 6 }, func(m *api.Letter) { m.Entries[3].Term = 10 }, func(m *api.Letter) { m.Entries[2].Term = 7 }, func(m *api.Letter) { m.Entries[0].Term = 0 },
		func(m *api.Letter) { m.Entries[1].Data = "x" }, func(m *api.Letter) { m.Entries[1].Members = 128 }, func(m *api.Letter) { m.Entries[1].Members = -1 }, func(m *api.Letter) { m.Entries[3].Members = 1 })
	add(install(), func(m *api.Letter) { m.Index = 0 }, func(m *api.Letter) { m.At = 0 }, func(m *api.Letter) { m.Index, m.At = 0, 0 }, func(m *api.Letter) { m.Members = 0 }, func(m *api.Letter) { m.Members = 128 }, func(m *api.Letter) { m.Members = -1 },
		func(m *api.Letter) { m.Size = 0 }, func(m *api.Letter) { m.Size = 9 }, func(m *api.Letter) { m.Size = longImage + 1 }, func(m *api.Letter) { m.Off = -1 }, func(m *api.Letter) { m.Off = 8 }, func(m *api.Letter) { m.Off = 12 }, func(m *api.Letter) { m.Data = "" }, func(m *api.Letter) { m.Data = "12345678" })
	add(more(), func(m *api.Letter) { m.Index = 0 }, func(m *api.Letter) { m.Off = -1 }, func(m *api.Letter) { m.Off = longImage + 1 })
	return out
}

// TestWhatIsNotRight: written in form, each of these is no letter.
func TestWhatIsNotRight(t *testing.T) {
	l := notRight()
	for _, m := range l {
		if wrong(m) == "" {
			t.Fatalf("right: %s", brief(m))
		}
		refused(t, written(m), api.ErrForm)
		rightIs(t, "not right", m, false)
	}
	if len(l) < 190 {
		t.Error(len(l))
	}
}

// TestEachByteTurned holds what comes of any one byte that is another against the model.
func TestEachByteTurned(t *testing.T) {
	met := map[api.Errno]int{}
	for _, m := range samples() {
		b := written(m)
		if len(b) > 60 {
			continue
		}
		for at := range b {
			for x := 1; x < 256; x++ {
				c := bytes.Clone(b)
				c[at] ^= byte(x)
				met[held(t, c)]++
			}
		}
	}
	for _, e := range []api.Errno{api.OK, api.ErrLong, api.ErrShort, api.ErrForm, api.ErrTail} {
		if met[e] < 100 {
			t.Error("seldom:", e, met)
		}
	}
}

// TestEachByteOfLongOnesTurned likewise, each with some others.
func TestEachByteOfLongOnesTurned(t *testing.T) {
	for _, m := range samples() {
		b := written(m)
		if len(b) <= 60 {
			continue
		}
		for at := range b {
			for _, x := range []byte{1, 2, 0x80, 0xff} {
				c := bytes.Clone(b)
				c[at] ^= x
				held(t, c)
			}
		}
	}
}

// TestEachByteMissingOrDoubled likewise.
func TestEachByteMissingOrDoubled(t *testing.T) {
	for _, m := range samples() {
		b := written(m)
		for at := range b {
			held(t, slices.Concat(b[:at], b[at+1:]))
			held(t, slices.Concat(b[:at+1], b[at:]))
			held(t, slices.Concat(b[:at], []byte{0}, b[at:]))
		}
	}
}

// room is as many bytes as a count may ask for behind it, so that it isn't the count of the entries that is told.
func room() []byte { return make([]byte, longBatch) }

// with is l laid, but for the token at that place, which is given as bytes.
func with(l []token, at int, b []byte) []byte {
	return slices.Concat(laid(l[:at]...), b, laid(l[at+1:]...))
}

// TestLimits: of a text and a count what is beyond its limit is ErrLong, whatever stands behind; what is within it but has fewer bytes behind it is ErrShort.
func TestLimits(t *testing.T) {
	seen := map[int]int{}
	for _, m := range samples() {
		l := tokens(m)
		for at, x := range l {
			if !x.text && !x.count {
				continue
			}
			seen[x.limit]++
			for _, n := range []int{least, -topTerm, -2, -1, x.limit + 1, x.limit + 2, 1 << 31, 1 << 32, topTerm, most} {
				refused(t, with(l, at, digits(n)), api.ErrLong)
				refused(t, slices.Concat(laid(l[:at]...), digits(n), room()), api.ErrLong)
				refused(t, slices.Concat(laid(l[:at]...), digits(n), make([]byte, x.limit+2)), api.ErrLong)
			}
			for _, n := range []int{1, 2, x.limit - 1, x.limit} {
				refused(t, slices.Concat(laid(l[:at]...), digits(n)), api.ErrShort)
				refused(t, slices.Concat(laid(l[:at]...), digits(n), make([]byte, n-1)), api.ErrShort)
			}
		}
	}
	if len(seen) != 3 || seen[longBatch] == 0 || seen[longPiece] == 0 || seen[longEntry] == 0 {
		t.Error(seen)
	}
}

// TestCountsAreAskedOfTheirBytes: a count that has fewer bytes behind it than it tells is told as short, though what stands there isn't in form.
func TestCountsAreAskedOfTheirBytes(t *testing.T) {
	head := laid(tokens(appends())[:12]...)
	ones := func(n int) []byte { return bytes.Repeat([]byte{1}, n) }
	for n := 1; n <= longBatch; n++ {
		refused(t, slices.Concat(head, digits(n), ones(n-1)), api.ErrShort)
		// -1, -1 and a text of -1 bytes
		if n > 2 {
			refused(t, slices.Concat(head, digits(n), ones(n)), api.ErrLong)
		}
	}
	refused(t, slices.Concat(head, digits(longBatch+1), ones(99)), api.ErrLong)
	refused(t, slices.Concat(head, digits(longBatch), bytes.Repeat([]byte{0}, 24)), api.ErrForm)
	refused(t, slices.Concat(head, digits(longBatch), bytes.Repeat([]byte{0}, 23)), api.ErrShort)
	refused(t, slices.Concat(head, digits(longBatch), bytes.Repeat([]byte{0}, 25)), api.ErrTail)
}

// TestTexts: Data of MaxPiece bytes is read, of one more it isn't; an entry's likewise with MaxEntry.
func TestTexts(t *testing.T) {
	for _, n := range []int{longPiece - 1, longPiece} {
		goes(t, piece(7, n, longImage))
		refused(t, written(turned(vote(), func(m *api.Letter) { m.Data = text(n) })), api.ErrForm)
	}
	for _, n := range []int{longPiece + 1, longPiece + 2, longEntry, longImage, 1 << 20} {
		refused(t, written(piece(7, n, longImage)), api.ErrLong)
		refused(t, written(turned(vote(), func(m *api.Letter) { m.Data = text(n) })), api.ErrLong)
	}
	for at := range longBatch {
		with := func(n, members int) api.Letter {
			return turned(batch(longBatch), func(m *api.Letter) { m.Entries[at].Data, m.Entries[at].Members = text(n), members })
		}
		for _, n := range []int{longPiece, longPiece + 1, longEntry - 1, longEntry} {
			goes(t, with(n, 0))
			refused(t, written(with(n, 1)), api.ErrForm)
		}
		for _, n := range []int{longEntry + 1, longEntry + 2, 1 << 20} {
			refused(t, written(with(n, 0)), api.ErrLong)
			refused(t, written(with(n, 1)), api.ErrLong)
		}
	}
	// texts are bytes, no runes
	for _, s := range []string{"\x00", "\xff", "\xc3(", "\x80\x80\x80", "\u00fc\u2603"} {
		goes(t, turned(install(), func(m *api.Letter) { m.Data, m.Size = s, 99 }))
		goes(t, turned(appends(), func(m *api.Letter) { m.Entries[3].Data = s }))
	}
}

// TestLongBatches: a count of MaxBatch is read, one more isn't.
func TestLongBatches(t *testing.T) {
	goes(t, batch(longBatch))
	for _, n := range []int{longBatch + 1, longBatch + 2, 64, 1000} {
		refused(t, written(batch(n)), api.ErrLong)
	}
	empty := turned(vote(), func(m *api.Letter) { m.Entries = make([]api.Entry, longBatch) })
	refused(t, written(empty), api.ErrForm)
}

// TestLongNumbers: a number that is written longer than it need be is refused, wherever it stands.
func TestLongNumbers(t *testing.T) {
	for _, m := range samples() {
		l := tokens(m)
		for at, x := range l {
			long := digits(x.n)
			for len(long) < 12 {
				long[len(long)-1] |= 0x80
				long = append(long, 0)
				refused(t, with(l, at, append(bytes.Clone(long), x.s...)), api.ErrForm)
			}
			for _, last := range []byte{2, 3, 0x7f, 0x80, 0x81, 0xff} {
				refused(t, with(l, at, append(bytes.Repeat([]byte{0xff}, 9), last)), api.ErrForm)
			}
		}
	}
}

func TestFlags(t *testing.T) {
	for _, m := range samples() {
		l := tokens(m)
		at := slices.IndexFunc(l, func(x token) bool { return x.flag })
		for _, n := range []int{least, -2, -1, 2, 3, 4, 256, 1 << 32, most} {
			refused(t, with(l, at, digits(n)), api.ErrForm)
			// ahead of what stands behind
			refused(t, slices.Concat(laid(l[:at]...), digits(n)), api.ErrForm)
			refused(t, slices.Concat(laid(l[:at]...), digits(n), digits(most)), api.ErrForm)
		}
		for n, yes := range []bool{false, true} {
			want := api.ErrForm
			if m.Kind == isVote || m.Kind == isAck || !yes {
				want = api.OK
			}
			if got, e := letter.Get(with(l, at, digits(n))); e != want || e == api.OK && !same(got, turned(m, func(m *api.Letter) { m.Yes = yes })) {
				t.Errorf("%s, %d", brief(got), e)
			}
		}
	}
}

// TestTheFirstErrorIsTold: of several faults that of the first place, and each of them ahead of what isn't right.
func TestTheFirstErrorIsTold(t *testing.T) {
	form, long := []byte{0x80, 0x00}, digits(most)
	for _, m := range []api.Letter{appends(), turned(appends(), func(m *api.Letter) { m.Kind = 0 }), install(), turned(batch(8), func(m *api.Letter) { m.Term = 0 })} {
		l := tokens(m)
		for at := range l {
			for later := at + 1; later < len(l); later++ {
				between, rest := laid(l[at+1:later]...), laid(l[later+1:]...)
				refused(t, slices.Concat(laid(l[:at]...), form, between, form, rest), api.ErrForm)
				refused(t, slices.Concat(laid(l[:at]...), form, between, room()), api.ErrForm)
				if l[later].text || l[later].count {
					refused(t, slices.Concat(laid(l[:at]...), form, between, long, rest), api.ErrForm)
				}
				if l[at].text || l[at].count {
					refused(t, slices.Concat(laid(l[:at]...), long, between, form, rest), api.ErrLong)
					refused(t, slices.Concat(laid(l[:at]...), long, between, room()), api.ErrLong)
				}
			}
			refused(t, append(with(l, at, form), 9), api.ErrForm)
		}
	}
}

// TestFarNumbers puts the least and the greatest numbers, and some that lie at edges, in the place of each number.
func TestFarNumbers(t *testing.T) {
	edges := []int{least, least + 1, least / 2, -topTerm, -65, -64, -2, -1, 0, 1, 2, 3, 4, 5, 6, 7, 8, 9, 10, 63, 64, 127, 128, 599, 600, 601, 1100, 1101, longImage - 1, longImage, longImage + 1, topTerm - 1, topTerm, topTerm + 1, most / 2, most - 1, most}
	for _, m := range samples() {
		l := tokens(m)
		for at, x := range l {
			for _, n := range append(edges, x.n-1, x.n+1, -x.n, 2*x.n) {
				held(t, with(l, at, digits(n)))
			}
		}
	}
}

// TestDrawnBytes hands in bytes that are drawn.
func TestDrawnBytes(t *testing.T) {
	draw := rand.New(rand.NewSource(203))
	met := map[api.Errno]int{}
	for range 100000 {
		b := make([]byte, draw.Intn(30))
		for i := range b {
			b[i] = pick(draw, 0, 0, 0, 0, 2, 2, 4, 6, 8, 10, 12, byte(draw.Intn(256)))
		}
		met[held(t, b)]++
	}
	for _, e := range []api.Errno{api.ErrLong, api.ErrShort, api.ErrForm, api.ErrTail} {
		if met[e] < 100 {
			t.Error("seldom:", e, met)
		}
	}
}

// TestDrawnTokens changes one to three tokens, and holds what comes of them against the model.
func TestDrawnTokens(t *testing.T) {
	draw := rand.New(rand.NewSource(204))
	met := map[api.Errno]int{}
	all := samples()
	for range 60000 {
		l := tokens(pick(draw, all...))
		for range 1 + draw.Intn(3) {
			x := &l[draw.Intn(len(l))]
			if x.text && draw.Intn(2) == 0 {
				x.s = text(pick(draw, 0, 1, 2, x.limit, x.limit+1))
				x.n = len(x.s)
				continue
			}
			x.n = pick(draw, x.n+1, x.n-1, 0, 1, 2, 3, 4, 5, 6, 40, 127, least, most, topTerm)
		}
		met[held(t, laid(l...))]++
	}
	for _, e := range []api.Errno{api.OK, api.ErrLong, api.ErrShort, api.ErrForm, api.ErrTail} {
		if met[e] < 100 {
			t.Error("seldom:", e, met)
		}
	}
}

// TestLongBytesEnd: what is far longer than any letter is answered at once.
func TestLongBytesEnd(t *testing.T) {
	b := slices.Clip(written(appends()))
	for _, c := range []struct {
		b    []byte
		want api.Errno
	}{
		{make([]byte, 1<<22), api.ErrTail}, {bytes.Repeat([]byte{0x80}, 1<<22), api.ErrForm}, {bytes.Repeat([]byte{0xff}, 1<<22), api.ErrForm}, {bytes.Repeat([]byte{2}, 1<<22), api.ErrTail}, {bytes.Repeat([]byte{4}, 1<<22), api.ErrForm},
		{append(b, make([]byte, 1<<22)...), api.ErrTail}, {slices.Concat(b[:12], make([]byte, 1<<22)), api.ErrTail},
	} {
		refused(t, c.b, c.want)
	}
}
