package letter_test

import (
	"math/rand"
	"reflect"
	"slices"
	"testing"

	"impost/api"
	"impost/letter"
)

// P20.1

func TestRightAsItIs(t *testing.T) {
	for k, m := range samples() {
		rightIs(t, k, m, true)
	}
	rightIs(t, "zero", api.Letter{}, false)
	for n, want := range map[int]bool{isAsk: true, isVote: true, isAppend: true, isAck: true, isInstall: false, isMore: false} {
		rightIs(t, "bare", api.Letter{Kind: n, To: 1, Term: 1}, want)
	}
}

// TestRightKinds puts each number to each letter's Kind: it is right then as one of another kind at most if that one names all that it has.
func TestRightKinds(t *testing.T) {
	if api.MAsk != isAsk || api.MVote != isVote || api.MAppend != isAppend || api.MAck != isAck || api.MInstall != isInstall || api.MMore != isMore {
		t.Fatal("other numbers of kinds")
	}
	as := map[int][]int{isAsk: {isAsk, isAppend}, isVote: {isVote, isAck}, isAppend: {isAppend}, isAck: {isAck}, isInstall: {isInstall}, isMore: {isMore}}
	for _, m := range kinds() {
		for _, n := range []int{least, -6, -1, 0, 1, 2, 3, 4, 5, 6, 7, 8, 9, 255, 256, 257, 1 << 32, 1<<32 + 1, most} {
			rightIs(t, n, turned(m, func(m *api.Letter) { m.Kind = n }), slices.Contains(as[m.Kind], n))
		}
		for _, n := range []int{least, -1, 0, 7, most} {
			rightIs(t, n, api.Letter{Kind: n, From: m.From, To: m.To, Term: m.Term}, false)
		}
	}
}

// TestRightNodes has each pair of nodes, beside the least and the greatest ones too.
func TestRightNodes(t *testing.T) {
	edges := []int{least, -7, -2, -1, 0, 1, 2, 3, 4, 5, 6, 7, 8, 127, 256, most}
	for _, m := range kinds() {
		for _, from := range edges {
			for _, to := range edges {
				want := from >= 0 && from <= 6 && to >= 0 && to <= 6 && from != to
				rightIs(t, "From, To", turned(m, func(m *api.Letter) { m.From, m.To = from, to }), want)
			}
		}
	}
}

// field is one that holds a number.
type field struct {
	name string
	at   func(m *api.Letter) *int
}

func fields() []field {
	return []field{
		{"Term", func(m *api.Letter) *int { return &m.Term }},
		{"Index", func(m *api.Letter) *int { return &m.Index }},
		{"At", func(m *api.Letter) *int { return &m.At }},
		{"Commit", func(m *api.Letter) *int { return &m.Commit }},
		{"Members", func(m *api.Letter) *int { return &m.Members }},
		{"Off", func(m *api.Letter) *int { return &m.Off }},
		{"Size", func(m *api.Letter) *int { return &m.Size }},
	}
}

func byName(name string) field {
	l := fields()
	return l[slices.IndexFunc(l, func(f field) bool { return f.name == name })]
}

// TestRightNumbers puts edges to each number that a kind names, by itself.
func TestRightNumbers(t *testing.T) {
	for _, c := range []struct {
		m    api.Letter
		name string
		yes  []int
		no   []int
	}{
		{ask(), "Term", []int{7, 8, 9, 10, topTerm - 1, topTerm}, []int{least, -9, -1, 0, 1, 6, topTerm + 1, most}},
		{ask(), "Index", []int{1, 2, topIndex - 1, topIndex}, []int{least, -40, -1, 0, topIndex + 1, most}},
		{ask(), "At", []int{1, 2, 8, 9}, []int{least, -7, -1, 0, 10, topTerm, topTerm + 1, most}},
		{vote(), "Term", []int{1, 2, topTerm - 1, topTerm}, []int{least, -1, 0, topTerm + 1, topTerm + 2, most}},
		{appends(), "Term", []int{9, 10, topTerm - 1, topTerm}, []int{least, -1, 0, 1, 7, 8, topTerm + 1, most}},
		{appends(), "Index", []int{1, 2, 39, topIndex - 5, topIndex - 4}, []int{least, -1, 0, topIndex - 3, topIndex, topIndex + 1, most - 3, most}},
		{appends(), "At", []int{1, 6, 7}, []int{least, -1, 0, 8, 9, 10, topTerm, most}},
		{appends(), "Commit", []int{0, 1, 39, 40, 41, 44, 45, topIndex - 1, topIndex}, []int{least, -2, -1, topIndex + 1, most}},
		{ack(), "Term", []int{1, 2, topTerm - 1, topTerm}, []int{least, -1, 0, topTerm + 1, most}},
		{ack(), "Index", []int{0, 1, 2, topIndex - 1, topIndex}, []int{least, -40, -1, topIndex + 1, most}},
		{install(), "Term", []int{7, 8, topTerm - 1, topTerm}, []int{least, -1, 0, 1, 6, topTerm + 1, most}},
		{install(), "Index", []int{1, 2, topIndex - 1, topIndex}, []int{least, -1, 0, topIndex + 1, most}},
		{install(), "At", []int{1, 2, 8, 9}, []int{least, -1, 0, 10, topTerm, most}},
		{install(), "Members", []int{1, 2, 3, 64, 126, 127}, []int{least, -127, -1, 0, 128, 129, 255, 256, most}},
		{install(), "Off", []int{0, 1, 6, 7}, []int{least, least + 12, -5, -1, 8, 11, 12, 13, longImage, most}},
		{install(), "Size", []int{10, 11, longImage - 1, longImage}, []int{least, -12, -1, 0, 1, 5, 6, 9, longImage + 1, most}},
		{more(), "Term", []int{1, 2, topTerm - 1, topTerm}, []int{least, -1, 0, topTerm + 1, most}},
		{more(), "Index", []int{1, 2, topIndex - 1, topIndex}, []int{least, -1, 0, topIndex + 1, most}},
		{more(), "Off", []int{0, 1, 599, longImage - 1, longImage}, []int{least, -600, -1, longImage + 1, longImage + 2, 2 * longImage, most}},
	} {
		f := byName(c.name)
		for k, l := range [][]int{c.no, c.yes} {
			for _, n := range l {
				rightIs(t, c.name, turned(c.m, func(m *api.Letter) { *f.at(m) = n }), k == 1)
			}
		}
	}
}

// TestRightUnnamed puts something to each field that isn't named beside a kind, by itself: no value but zero is right.
func TestRightUnnamed(t *testing.T) {
	seen := map[int]int{}
	check := func(m api.Letter, name string, turn func(m *api.Letter)) {
		if !slices.Contains(names[m.Kind], name) {
			seen[m.Kind]++
			rightIs(t, name, turned(m, turn), false)
		}
	}
	for _, m := range kinds() {
		for _, f := range fields()[1:] {
			for _, n := range []int{least, -40, -1, 1, 2, 5, 7, 9, 40, 600, 1 << 32, topIndex, most} {
				check(m, f.name, func(m *api.Letter) { *f.at(m) = n })
			}
		}
		check(m, "Yes", func(m *api.Letter) { m.Yes = true })
		for _, s := range []string{"\x00", "x", "piece", text(longPiece), text(longPiece + 1)} {
			check(m, "Data", func(m *api.Letter) { m.Data = s })
		}
		for _, l := range [][]api.Entry{{{}}, {en(9, "")}, {of(9, 1)}, appends().Entries, batch(longBatch).Entries, batch(longBatch + 1).Entries} {
			check(m, "Entries", func(m *api.Letter) { m.Entries = l })
		}
	}
	// of nine fields that aren't named beside all kinds: six numbers with 13 values each, Yes with one, Data with five, Entries with six
	for kind, want := range map[int]int{isAsk: 4*13 + 1 + 5 + 6, isVote: 6*13 + 5 + 6, isAppend: 3*13 + 1 + 5, isAck: 5*13 + 5 + 6, isInstall: 13 + 1 + 6, isMore: 4*13 + 1 + 5 + 6} {
		if seen[kind] != want {
			t.Errorf("kind %d: %d, not %d", kind, seen[kind], want)
		}
	}
	if n := reflect.TypeFor[api.Letter]().NumField(); n != 4+9 {
		t.Errorf("%d fields", n)
	}
}

// TestRightNamedYes: what is named may also be zero, where no more is said of it.
func TestRightNamedYes(t *testing.T) {
	for _, yes := range []bool{false, true} {
		rightIs(t, yes, turned(vote(), func(m *api.Letter) { m.Yes = yes }), true)
		rightIs(t, yes, turned(ack(), func(m *api.Letter) { m.Yes = yes }), true)
		rightIs(t, yes, turned(ack(), func(m *api.Letter) { m.Yes, m.Index = yes, 0 }), true)
	}
}

// TestRightIndexAndAt has both at 0, one alone, and both not.
func TestRightIndexAndAt(t *testing.T) {
	for _, index := range []int{-1, 0, 1, 40, topIndex - 9, topIndex, topIndex + 1} {
		for _, at := range []int{-1, 0, 1, 2, 3, 4, topTerm} {
			within := index >= 0 && index <= topIndex && at >= 0 && at <= 3
			with := func(m api.Letter) api.Letter {
				return turned(m, func(m *api.Letter) { m.Term, m.Index, m.At = 3, index, at })
			}
			rightIs(t, "MAsk", with(ask()), within && (index == 0) == (at == 0))
			rightIs(t, "MAppend of none", with(batch(0)), within && (index == 0) == (at == 0))
			three := turned(batch(3), func(m *api.Letter) { m.Entries = []api.Entry{en(3, "x"), en(3, ""), of(3, 5)} })
			rightIs(t, "MAppend of three", with(three), within && (index == 0) == (at == 0) && index <= topIndex-3)
			rightIs(t, "MInstall", with(install()), within && index > 0 && at > 0)
			rightIs(t, "MVote", with(vote()), index == 0 && at == 0)
			rightIs(t, "MAck", with(ack()), within && at == 0)
			rightIs(t, "MMore", with(more()), within && index > 0 && at == 0)
		}
	}
}

// TestRightBatch has Entries about as many as may be, anywhere and at the last numbers.
func TestRightBatch(t *testing.T) {
	for _, n := range []int{0, 1, 2, 7, 8, 9, 10, 16, 199, 200, 201, 1000} {
		rightIs(t, n, batch(n), n <= longBatch)
		for back := -2; back < 12; back++ {
			m := turned(batch(n), func(m *api.Letter) { m.Index = topIndex - back })
			rightIs(t, []int{n, back}, m, n <= longBatch && back >= n)
		}
		rightIs(t, n, turned(batch(n), func(m *api.Letter) { m.Index = most }), false)
		rightIs(t, n, turned(batch(n), func(m *api.Letter) { m.Index = most - n }), false)
	}
}

// TestRightEntryTerms has each three Terms, behind each At.
func TestRightEntryTerms(t *testing.T) {
	for at := range 5 {
		for k := range 7 * 7 * 7 {
			a, b, c := k%7-1, k/7%7-1, k/49-1
			m := turned(appends(), func(m *api.Letter) {
				m.Term, m.At, m.Entries = 4, at, []api.Entry{en(a, ""), of(b, 9), en(c, "q")}
				if at == 0 {
					m.Index = 0
				}
			})
			rightIs(t, "Terms", m, a > 0 && a >= at && b >= a && c >= b && c <= 4)
		}
	}
	for _, n := range []int{least, -1, 0, topTerm, topTerm + 1, most} {
		one := func(m *api.Letter) { m.Entries = []api.Entry{en(n, "")} }
		rightIs(t, n, turned(appends(), one), false)
		rightIs(t, n, turned(appends(), one, func(m *api.Letter) { m.Term = topTerm }), n == topTerm)
		rightIs(t, n, turned(appends(), one, func(m *api.Letter) { m.Index, m.At = 0, 0 }), false)
	}
}

// TestRightEntryTermsAtEachPlace turns the Term of one of a whole batch.
func TestRightEntryTermsAtEachPlace(t *testing.T) {
	for at := range longBatch {
		for n := -1; n < 20; n++ {
			m := turned(batch(longBatch), func(m *api.Letter) {
				m.Term, m.At = 17, 2
				for k := range m.Entries {
					m.Entries[k].Term = 3 + 2*k
				}
				m.Entries[at].Term = n
			})
			low, high := 3+2*at-2, 3+2*at+2
			rightIs(t, []int{at, n}, m, n >= max(low, 2) && n <= min(high, 17))
		}
	}
}

// TestRightEntries puts edges into an entry at each place.
func TestRightEntries(t *testing.T) {
	for at := range longBatch {
		for _, c := range []struct {
			members int
			data    string
			want    bool
		}{
			{0, "", true}, {0, "a", true}, {0, "\x00", true}, {0, text(longPiece + 1), true}, {0, text(longEntry - 1), true}, {0, text(longEntry), true}, {0, text(longEntry + 1), false}, {0, text(1 << 16), false},
			{1, "", true}, {2, "", true}, {64, "", true}, {126, "", true}, {127, "", true}, {128, "", false}, {129, "", false}, {256, "", false}, {-1, "", false}, {least, "", false}, {most, "", false},
			{1, "a", false}, {1, "\x00", false}, {127, text(longEntry), false}, {128, "a", false}, {-1, "a", false}, {1, text(longEntry + 1), false},
		} {
			m := turned(batch(longBatch), func(m *api.Letter) { m.Entries[at].Members, m.Entries[at].Data = c.members, c.data })
			rightIs(t, at, m, c.want)
			rightIs(t, at, turned(m, func(m *api.Letter) { m.Entries = m.Entries[:at+1] }), c.want)
			rightIs(t, at, turned(m, func(m *api.Letter) { m.Index, m.At, m.Entries = 0, 0, m.Entries[at:] }), c.want)
		}
	}
}

// TestRightPieces has small snapshots, and pieces of each length from each place on.
func TestRightPieces(t *testing.T) {
	for size := -1; size < 7; size++ {
		for off := -2; off < 8; off++ {
			for n := range 9 {
				rightIs(t, "piece", piece(off, n, size), size > 0 && off >= 0 && n > 0 && off+n <= size)
			}
		}
	}
}

// TestRightLongPieces likewise at the limits of a piece and of an image; the last piece ends where the snapshot does.
func TestRightLongPieces(t *testing.T) {
	for _, size := range []int{longPiece - 1, longPiece, longPiece + 1, 2 * longPiece, longImage - 1, longImage, longImage + 1, 2 * longImage} {
		for _, n := range []int{0, 1, 2, longPiece - 1, longPiece, longPiece + 1, 2 * longPiece, longImage} {
			for _, off := range []int{-1, 0, 1, size - n - 1, size - n, size - n + 1, size - 1, size, size + 1, size - longPiece, longImage} {
				rightIs(t, "piece", piece(off, n, size), size <= longImage && n > 0 && n <= longPiece && off >= 0 && off+n <= size)
			}
		}
	}
}

// TestRightFarPieces has numbers whose sums and differences wrap.
func TestRightFarPieces(t *testing.T) {
	far := []int{least, least + 1, -1, most - 1, most}
	for _, n := range []int{0, 1, 2, longPiece, longPiece + 1} {
		for _, a := range far {
			for _, b := range append(far, 0, 1, 12, longImage) {
				rightIs(t, "Off, Size", piece(a, n, b), false)
				rightIs(t, "Size, Off", piece(b, n, a), false)
			}
		}
	}
}

// TestRightDrawn has edges at several places at once.
func TestRightDrawn(t *testing.T) {
	draw := rand.New(rand.NewSource(201))
	count := map[bool]int{}
	whys := map[string]int{}
	for range 200000 {
		m := kinds()[draw.Intn(6)]
		for range draw.Intn(4) {
			turnOne(draw, &m)
		}
		why := wrong(m)
		if got := letter.Right(m); got != (why == "") {
			t.Fatalf("Right of %s: %v; %q", brief(m), got, why)
		}
		count[why == ""]++
		whys[why]++
	}
	if count[true] < 20000 || count[false] < 20000 || len(whys) < 20 {
		t.Error(count, whys)
	}
}

func pick[T any](draw *rand.Rand, l ...T) T { return l[draw.Intn(len(l))] }

// turnOne puts something else to one place of m.
func turnOne(draw *rand.Rand, m *api.Letter) {
	switch draw.Intn(13) {
	case 0:
		m.Kind = pick(draw, 0, 1, 2, 3, 4, 5, 6, 7)
	case 1:
		m.From = pick(draw, -1, 0, 1, 5, 6, 7)
	case 2:
		m.To = pick(draw, -1, 0, 1, 2, 6, 7)
	case 3:
		m.Term = pick(draw, 0, 1, 6, 7, 8, 9, 10, topTerm, topTerm+1)
	case 4:
		m.Index = pick(draw, -1, 0, 1, 2, 41, topIndex-4, topIndex-3, topIndex, topIndex+1)
	case 5:
		m.At = pick(draw, -1, 0, 1, 7, 8, 9, 10)
	case 6:
		m.Commit = pick(draw, -1, 0, 1, 40, topIndex, topIndex+1)
	case 7:
		m.Members = pick(draw, -1, 0, 1, 127, 128)
	case 8:
		m.Off = pick(draw, -1, 0, 1, 7, 8, longImage-1, longImage, longImage+1)
	case 9:
		m.Size = pick(draw, -1, 0, 1, 5, 9, 10, longImage, longImage+1)
	case 10:
		m.Yes = !m.Yes
	case 11:
		m.Data = text(pick(draw, 0, 1, 5, 7, 8, longPiece, longPiece+1))
	case 12:
		m.Entries = m.Entries[:draw.Intn(len(m.Entries)+1)]
		for range draw.Intn(3) * draw.Intn(4) {
			e := api.Entry{Term: pick(draw, 0, 1, 7, 8, 9, 9, 9, 10), Members: pick(draw, -1, 0, 0, 0, 0, 0, 1, 127, 128)}
			if e.Members == 0 || draw.Intn(9) == 0 {
				e.Data = text(pick(draw, 0, 0, 1, longEntry, longEntry+1))
			}
			m.Entries = append(m.Entries, e)
		}
	}
}
