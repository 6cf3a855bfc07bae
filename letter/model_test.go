package letter_test

import (
	"bytes"
	"encoding/binary"
	"fmt"
	"math"
	"reflect"
	"slices"
	"strconv"
	"strings"
	"testing"

	"impost/api"
	"impost/letter"
)

// The limits, written out so that one that slips is seen.
const (
	least     = math.MinInt
	most      = math.MaxInt
	topNode   = 6
	topTerm   = 1099511627776
	topIndex  = 1099511627776
	allNodes  = 127
	longBatch = 8
	longEntry = 1100
	longPiece = 600
	longImage = 65536
)

// The kinds, by the numbers that are written.
const (
	isAsk     = 1
	isVote    = 2
	isAppend  = 3
	isAck     = 4
	isInstall = 5
	isMore    = 6
)

// names are the fields that are named beside each kind.
var names = map[int][]string{
	isAsk:     {"Index", "At"},
	isVote:    {"Yes"},
	isAppend:  {"Index", "At", "Entries", "Commit"},
	isAck:     {"Yes", "Index"},
	isInstall: {"Index", "At", "Members", "Off", "Size", "Data"},
	isMore:    {"Index", "Off"},
}

func en(term int, data string) api.Entry { return api.Entry{Term: term, Data: data} }
func of(term, members int) api.Entry     { return api.Entry{Term: term, Members: members} }

func text(n int) string { return strings.Repeat("d", n) }

// One letter of each kind; no number of it stands at an edge.
func ask() api.Letter {
	return api.Letter{Kind: isAsk, From: 2, To: 5, Term: 9, Index: 40, At: 7}
}
func vote() api.Letter { return api.Letter{Kind: isVote, From: 2, To: 5, Term: 9, Yes: true} }
func appends() api.Letter {
	return api.Letter{Kind: isAppend, From: 2, To: 5, Term: 9, Index: 40, At: 7, Commit: 33, Entries: []api.Entry{en(7, "x"), of(8, 21), en(8, ""), en(9, "yz")}}
}
func ack() api.Letter {
	return api.Letter{Kind: isAck, From: 2, To: 5, Term: 9, Yes: true, Index: 40}
}
func install() api.Letter {
	return api.Letter{Kind: isInstall, From: 2, To: 5, Term: 9, Index: 40, At: 7, Members: 21, Off: 5, Size: 12, Data: "piece"}
}
func more() api.Letter {
	return api.Letter{Kind: isMore, From: 2, To: 5, Term: 9, Index: 40, Off: 600}
}

func kinds() []api.Letter {
	return []api.Letter{ask(), vote(), appends(), ack(), install(), more()}
}

// turned is m with something done to it.
func turned(m api.Letter, turns ...func(m *api.Letter)) api.Letter {
	m.Entries = slices.Clone(m.Entries)
	for _, turn := range turns {
		turn(&m)
	}
	return m
}

// batch is an MAppend with n entries, without bytes.
func batch(n int) api.Letter {
	return turned(appends(), func(m *api.Letter) { m.Entries = slices.Repeat([]api.Entry{en(8, "")}, n) })
}

// piece is an MInstall with n bytes from off on of a snapshot of that size.
func piece(off, n, size int) api.Letter {
	return turned(install(), func(m *api.Letter) { m.Off, m.Size, m.Data = off, size, text(n) })
}

// samples are right letters of each kind, ordinary ones and ones at the edges.
func samples() []api.Letter {
	first := func(m *api.Letter) { m.Index, m.At = 0, 0 }
	far := func(m *api.Letter) { m.From, m.To, m.Term, m.Index = 0, topNode, topTerm, topIndex }
	late := func(m *api.Letter) { m.At = topTerm }
	return append(kinds(),
		turned(ask(), first), turned(ask(), far), turned(ask(), far, late),
		turned(vote(), func(m *api.Letter) { m.Yes = false }), turned(vote(), func(m *api.Letter) { m.Term = topTerm }),
		turned(appends(), first), turned(batch(0), far, late), batch(0), batch(1), batch(2), batch(7), batch(longBatch),
		turned(appends(), func(m *api.Letter) { m.Commit = topIndex }), turned(appends(), func(m *api.Letter) { m.Commit = 0 }),
		turned(appends(), func(m *api.Letter) { m.Entries = []api.Entry{en(9, text(longEntry)), of(9, allNodes), of(9, 1)} }),
		turned(batch(longBatch), first, func(m *api.Letter) { m.Index, m.At, m.Term, m.Entries[7].Term = topIndex-8, 1, topTerm, topTerm }),
		turned(ack(), func(m *api.Letter) { m.Yes = false }), turned(ack(), func(m *api.Letter) { m.Index = 0 }), turned(ack(), far),
		piece(0, 1, 1), piece(0, longPiece, 2*longPiece), piece(longPiece, longPiece, 2*longPiece), piece(longImage-longPiece, longPiece, longImage), piece(longImage-1, 1, longImage),
		turned(install(), far, func(m *api.Letter) { m.At, m.Members = 1, allNodes }),
		turned(more(), func(m *api.Letter) { m.Off = 0 }), turned(more(), far, func(m *api.Letter) { m.Off = longImage }),
	)
}

// unnamed is a field that isn't zero, though it isn't named beside m's kind; or nothing.
func unnamed(m api.Letter) string {
	v := reflect.ValueOf(m)
	for i := range v.NumField() {
		name, f := v.Type().Field(i).Name, v.Field(i)
		if slices.Contains([]string{"Kind", "From", "To", "Term"}, name) || slices.Contains(names[m.Kind], name) {
			continue
		}
		if f.Kind() == reflect.Slice && f.Len() > 0 || f.Kind() != reflect.Slice && !f.IsZero() {
			return name
		}
	}
	return ""
}

// wrong says why m isn't right, or nothing.
func wrong(m api.Letter) string {
	switch {
	case names[m.Kind] == nil:
		return "Kind"
	case m.From < 0 || m.From > topNode || m.To < 0 || m.To > topNode || m.From == m.To:
		return "From, To"
	case m.Term < 1 || m.Term > topTerm:
		return "Term"
	case unnamed(m) != "":
		return unnamed(m)
	case m.Index < 0 || m.Index > topIndex:
		return "Index"
	case m.At < 0 || m.At > m.Term:
		return "At"
	case m.Commit < 0 || m.Commit > topIndex:
		return "Commit"
	case (m.Kind == isAsk || m.Kind == isAppend) && (m.Index == 0) != (m.At == 0):
		return "Index, At"
	}
	return map[int]func(api.Letter) string{isAppend: wrongAppend, isInstall: wrongInstall, isMore: wrongMore, isAsk: wrongNone, isVote: wrongNone, isAck: wrongNone}[m.Kind](m)
}

func wrongNone(api.Letter) string { return "" }

func wrongAppend(m api.Letter) string {
	if len(m.Entries) > longBatch {
		return "Entries"
	}
	if m.Index > topIndex-len(m.Entries) {
		return "last number"
	}
	ahead := m.At
	for k, e := range m.Entries {
		switch {
		case e.Term < 1 || e.Term < ahead || e.Term > m.Term:
			return fmt.Sprint("Term of ", k)
		case e.Members < 0 || e.Members > allNodes:
			return fmt.Sprint("Members of ", k)
		case len(e.Data) > longEntry || e.Members != 0 && e.Data != "":
			return fmt.Sprint("Data of ", k)
		}
		ahead = e.Term
	}
	return ""
}

func wrongInstall(m api.Letter) string {
	switch {
	case m.Index == 0 || m.At == 0:
		return "Index, At"
	case m.Members < 1 || m.Members > allNodes:
		return "Members"
	case m.Size < 1 || m.Size > longImage:
		return "Size"
	case m.Off < 0 || m.Off >= m.Size:
		return "Off"
	case len(m.Data) < 1 || len(m.Data) > longPiece || len(m.Data) > m.Size-m.Off:
		return "Data"
	}
	return ""
}

func wrongMore(m api.Letter) string {
	switch {
	case m.Index == 0:
		return "Index"
	case m.Off < 0 || m.Off > longImage:
		return "Off"
	}
	return ""
}

// token is a number, or a text, of a letter; a flag, if it may be 0 or 1 alone; it has a limit, if it is a text or a count.
type token struct {
	text, count, flag bool
	s                 string
	n, limit          int
}

func num(n int) token { return token{n: n} }

func txt(s string, limit int) token { return token{text: true, s: s, n: len(s), limit: limit} }

// tokens are what the chapter says that is written of m, which need not be right.
func tokens(m api.Letter) []token {
	var l []token
	for _, n := range []int{m.Kind, m.From, m.To, m.Term, m.Index, m.At, m.Commit, m.Members, m.Off, m.Size} {
		l = append(l, num(n))
	}
	l = append(l, token{flag: true, n: map[bool]int{true: 1}[m.Yes]}, txt(m.Data, longPiece), token{count: true, n: len(m.Entries), limit: longBatch})
	for _, e := range m.Entries {
		l = append(l, num(e.Term), num(e.Members), txt(e.Data, longEntry))
	}
	return l
}

// digits is a number as chapter 2 writes it, by the library's own.
func digits(n int) []byte { return binary.AppendVarint(nil, int64(n)) }

func (t token) lay() []byte { return append(digits(t.n), t.s...) }

// laid are tokens as bytes.
func laid(l ...token) []byte {
	var b []byte
	for _, t := range l {
		b = append(b, t.lay()...)
	}
	return b
}

// written is m as bytes, right or not.
func written(m api.Letter) []byte { return laid(tokens(m)...) }

// walk goes through bytes as chapter 2 says of a reader.
type walk struct {
	b []byte
	e api.Errno
}

// fails gives the walk its error, if it has none.
func (w *walk) fails(e api.Errno) {
	if w.e == api.OK {
		w.e = e
	}
}

func (w *walk) num() int {
	if w.e != api.OK {
		return 0
	}
	ended := slices.IndexFunc(w.b, func(x byte) bool { return x < 128 })
	if (ended < 0 || ended > 8) && len(w.b) > 9 && w.b[9] > 1 {
		w.fails(api.ErrForm)
		return 0
	}
	n, size := binary.Varint(w.b)
	if size == 0 {
		w.fails(api.ErrShort)
		return 0
	}
	if !bytes.HasPrefix(w.b, digits(int(n))) {
		w.fails(api.ErrForm)
		return 0
	}
	w.b = w.b[size:]
	return int(n)
}

func (w *walk) flag() bool {
	n := w.num()
	if n != 0 && n != 1 {
		w.fails(api.ErrForm)
	}
	return n == 1
}

// count is how many are said to follow: bytes of a text, or things.
func (w *walk) count(limit int) int {
	n := w.num()
	if n < 0 || n > limit {
		w.fails(api.ErrLong)
	}
	if n > len(w.b) {
		w.fails(api.ErrShort)
	}
	if w.e != api.OK {
		return 0
	}
	return n
}

func (w *walk) text(limit int) string {
	n := w.count(limit)
	s := string(w.b[:n])
	w.b = w.b[n:]
	return s
}

// letter is what is written of a letter.
func (w *walk) letter() api.Letter {
	var m api.Letter
	for _, at := range []*int{&m.Kind, &m.From, &m.To, &m.Term, &m.Index, &m.At, &m.Commit, &m.Members, &m.Off, &m.Size} {
		*at = w.num()
	}
	m.Yes = w.flag()
	m.Data = w.text(longPiece)
	for range w.count(longBatch) {
		e := api.Entry{Term: w.num()}
		e.Members = w.num()
		e.Data = w.text(longEntry)
		m.Entries = append(m.Entries, e)
	}
	return m
}

// wantGet is what the chapter says of Get.
func wantGet(b []byte) (api.Letter, api.Errno) {
	w := &walk{b: b}
	m := w.letter()
	if len(w.b) > 0 {
		w.fails(api.ErrTail)
	}
	if w.e == api.OK && wrong(m) != "" {
		w.fails(api.ErrForm)
	}
	if w.e != api.OK {
		return api.Letter{}, w.e
	}
	return m, api.OK
}

// same tells whether two letters are the same in every field; nil and empty Entries are.
func same(a, b api.Letter) bool {
	if !slices.Equal(a.Entries, b.Entries) {
		return false
	}
	a.Entries, b.Entries = nil, nil
	return reflect.DeepEqual(a, b)
}

// brief is m as a text, long ones in it told by their lengths.
func brief(m api.Letter) string {
	short := func(s string) string {
		if len(s) > 20 {
			return strconv.Itoa(len(s)) + " bytes"
		}
		return strconv.Quote(s)
	}
	out := fmt.Sprint(m.Kind, ": ", m.From, " to ", m.To, " Term ", m.Term, " Index ", m.Index, " At ", m.At, " Commit ", m.Commit, " Members ", m.Members, " Off ", m.Off, " Size ", m.Size, " ", m.Yes, " ", short(m.Data))
	for k, e := range m.Entries {
		if k == 12 {
			return out + " and so on, " + strconv.Itoa(len(m.Entries))
		}
		out += fmt.Sprint(" (", e.Term, " ", e.Members, " ", short(e.Data), ")")
	}
	return out
}

// goes asks that the right letter m is written as the chapter says, and read back.
func goes(t *testing.T, m api.Letter) []byte {
	t.Helper()
	b := letter.Put(m)
	if !bytes.Equal(b, written(m)) {
		t.Fatalf("Put of %s: % x, not % x", brief(m), b, written(m))
	}
	if got, e := letter.Get(b); e != api.OK || !same(got, m) {
		t.Fatalf("Get of % x: %s, %d, not %s", b, brief(got), e, brief(m))
	}
	return b
}

// refused asks that b has that error, and nothing beside it.
func refused(t *testing.T, b []byte, want api.Errno) {
	t.Helper()
	if m, e := letter.Get(b); e != want || !same(m, api.Letter{}) {
		t.Errorf("Get of % .60x: %s, %d, not %d", b, brief(m), e, want)
	}
}

// held holds Get of b against the model.
func held(t *testing.T, b []byte) api.Errno {
	t.Helper()
	want, why := wantGet(b)
	got, e := letter.Get(b)
	if e != why || !same(got, want) {
		t.Fatalf("Get of % x: %s, %d, not %s, %d", b, brief(got), e, brief(want), why)
	}
	if e == api.OK && (!letter.Right(got) || !bytes.Equal(letter.Put(got), b)) {
		t.Fatalf("Get of % x is written as % x", b, letter.Put(got))
	}
	return e
}

// rightIs fails, if Right says otherwise, or the model does, or Put and Get don't go by it.
func rightIs(t *testing.T, what any, m api.Letter, want bool) {
	t.Helper()
	if got := letter.Right(m); got != want {
		t.Errorf("%v: Right of %s: %v", what, brief(m), got)
	}
	if why := wrong(m); (why == "") != want {
		t.Errorf("%v: the model says %q of %s", what, why, brief(m))
	}
	if b := letter.Put(m); want && !bytes.Equal(b, written(m)) || !want && len(b) > 0 {
		t.Errorf("%v: Put of %s: % .60x", what, brief(m), b)
	}
	// what is too long for a letter is told by the reader, ahead of what isn't right
	got, e := letter.Get(written(m))
	if want && (e != api.OK || !same(got, m)) || !want && (e != api.ErrForm && e != api.ErrLong || !same(got, api.Letter{})) {
		t.Errorf("%v: Get of %s: %s, %d", what, brief(m), brief(got), e)
	}
}
