package wal_test

import (
	"bytes"
	"encoding/binary"
	"fmt"
	"hash/crc32"
	"math"
	"regexp"
	"slices"
	"sort"
	"strconv"
	"strings"
	"testing"

	"impost/api"
	"impost/disk"
	"impost/wal"
)

// The limits, written out so that one that slips is seen.
const (
	least      = math.MinInt
	most       = math.MaxInt
	topTerm    = 1099511627776
	topIndex   = 1099511627776
	allNodes   = 127
	topVote    = 6
	longImage  = 65536
	longLog    = 200
	longEntry  = 1100
	longFile   = 8192
	lastNumber = 99999999999999
)

// wrong says why h isn't right, or nothing.
func wrong(h api.Hard) string {
	switch {
	case h.Term < 0 || h.Term > topTerm:
		return "Term"
	case h.Vote < -1 || h.Vote > topVote:
		return "Vote"
	case h.Base < 0 || h.Base > topIndex:
		return "Base"
	case h.BaseTerm < 0 || h.BaseTerm > h.Term:
		return "BaseTerm"
	case h.Base == 0 && h.BaseTerm != 0, h.Base != 0 && h.BaseTerm == 0:
		return "Base and BaseTerm"
	case h.Members < 1 || h.Members > allNodes:
		return "Members"
	case h.Base == 0 && h.Snap != "", h.Base != 0 && h.Snap == "":
		return "Base and Snap"
	case len(h.Snap) > longImage:
		return "Snap"
	case len(h.Log) > longLog:
		return "Log"
	case h.Base > topIndex-len(h.Log):
		return "last number"
	}
	ahead := h.BaseTerm
	for k, e := range h.Log {
		switch {
		case e.Term < 1 || e.Term < ahead || e.Term > h.Term:
			return fmt.Sprint("Term of ", k)
		case e.Members < 0 || e.Members > allNodes:
			return fmt.Sprint("Members of ", k)
		case len(e.Data) > longEntry:
			return fmt.Sprint("Data of ", k)
		case e.Members != 0 && e.Data != "":
			return fmt.Sprint("Members and Data of ", k)
		}
		ahead = e.Term
	}
	return ""
}

// snapped is h with a Snap that its Base asks for.
func snapped(h api.Hard) api.Hard {
	h.Snap = ""
	if h.Base != 0 {
		h.Snap = "snap"
	}
	return h
}

// bare is h without its Snap, as a Wal has it.
func bare(h api.Hard) api.Hard {
	h.Snap = ""
	return h
}

// nums is numbers as chapter 2 has them, by the library's own.
func nums(l ...int) []byte {
	var b []byte
	for _, n := range l {
		b = binary.AppendVarint(b, int64(n))
	}
	return b
}

// The five records.
func begin(h api.Hard) []byte {
	return nums(1, h.Term, h.Vote, h.Base, h.BaseTerm, h.Members)
}
func entry(e api.Entry) []byte {
	return append(nums(2, e.Term, e.Members, len(e.Data)), e.Data...)
}
func ready() []byte              { return nums(3) }
func vote(term, who int) []byte  { return nums(4, term, who) }
func cut(to int) []byte          { return nums(5, to) }
func records(l ...[]byte) []byte { return bytes.Join(framedEach(l), nil) }

// framedEach are the frames of payloads.
func framedEach(l [][]byte) [][]byte {
	var out [][]byte
	for _, p := range l {
		out = append(out, framed(p))
	}
	return out
}

// framed is a payload's frame, with the library's sum.
func framed(p []byte) []byte {
	f := binary.LittleEndian.AppendUint32(nil, uint32(len(p)))
	f = append(f, p...)
	return binary.LittleEndian.AppendUint32(f, koopman(f))
}

func koopman(b []byte) uint32 { return crc32.Checksum(b, crc32.MakeTable(crc32.Koopman)) }

// unframed is the payload of the frame that b begins with, and how long that is; none, if it can't be read.
func unframed(b []byte) ([]byte, int) {
	if len(b) < 4 {
		return nil, 0
	}
	n := int(binary.LittleEndian.Uint32(b))
	if n < 1 || n > 131072 || len(b) < n+8 {
		return nil, 0
	}
	if koopman(b[:n+4]) != binary.LittleEndian.Uint32(b[n+4:]) {
		return nil, 0
	}
	return b[4 : n+4], n + 8
}

// told is a record as it is read: its numbers, and an entry's Data.
type told struct {
	n    []int
	data string
}

// tell reads a payload, just so long.
func tell(p []byte) (told, bool) {
	kind, p, ok := number(p)
	if !ok || kind < 1 || kind > 5 {
		return told{}, false
	}
	r := told{n: []int{kind}}
	for range map[int]int{1: 5, 2: 3, 3: 0, 4: 2, 5: 1}[kind] {
		n, rest, ok := number(p)
		if !ok {
			return told{}, false
		}
		r.n, p = append(r.n, n), rest
	}
	if kind == 2 {
		if len(p) != r.n[3] {
			return told{}, false
		}
		r.data, p = string(p), nil
	}
	return r, len(p) == 0
}

// number is the one that b begins with, in its only form, and what follows.
func number(b []byte) (int, []byte, bool) {
	n, size := binary.Varint(b)
	if size <= 0 || !bytes.Equal(binary.AppendVarint(nil, n), b[:size]) {
		return 0, nil, false
	}
	return int(n), b[size:], true
}

// read is what a file's records come to by the model.
type read struct {
	h            api.Hard
	begun, whole bool
	end          int
}

// readFile goes through a file, and asks behind each record whether all of the Hard is right.
func readFile(b []byte) read {
	s := read{h: api.Hard{Vote: -1}}
	for {
		p, size := unframed(b[s.end:])
		if size == 0 {
			return s
		}
		r, ok := tell(p)
		if !ok {
			return s
		}
		next, ok := s.behind(r)
		if !ok || wrong(snapped(next.h)) != "" {
			return s
		}
		next.end = s.end + size
		s = next
	}
}

// behind is s with the record r more, and whether that may stand there.
func (s read) behind(r told) (read, bool) {
	h := s.h
	h.Log = slices.Clone(h.Log)
	switch r.n[0] {
	case 1:
		return read{h: api.Hard{Term: r.n[1], Vote: r.n[2], Base: r.n[3], BaseTerm: r.n[4], Members: r.n[5]}, begun: true}, !s.begun
	case 2:
		h.Log = append(h.Log, api.Entry{Term: r.n[1], Members: r.n[2], Data: r.data})
		return read{h: h, begun: true, whole: s.whole}, s.begun
	case 3:
		return read{h: h, begun: true, whole: true}, s.begun && !s.whole
	case 4:
		ok := s.whole && (r.n[1] > h.Term || r.n[1] == h.Term && h.Vote == -1)
		h.Term, h.Vote = r.n[1], r.n[2]
		return read{h: h, begun: true, whole: true}, ok
	}
	if to := r.n[1]; s.whole && to >= h.Base && to <= h.Base+len(h.Log) {
		h.Log = h.Log[:to-h.Base]
		return read{h: h, begun: true, whole: true}, true
	}
	return s, false
}

// change is one of a disk's.
type change struct {
	kind, name string
	p          []byte
	n          int
}

func (c change) on(d *disk.Disk) api.Errno {
	switch c.kind {
	case "append":
		return d.Append(c.name, c.p)
	case "sync":
		return d.Sync(c.name)
	case "cut":
		return d.Cut(c.name, c.n)
	case "remove":
		return d.Remove(c.name)
	}
	panic(c.kind)
}

// does does changes up to the first that is refused.
func does(d *disk.Disk, l []change) api.Errno {
	for _, c := range l {
		if e := c.on(d); e != api.OK {
			return e
		}
	}
	return api.OK
}

func file(n int) string { return "wal." + strconv.Itoa(n) }

var segmentName = regexp.MustCompile(`\Awal\.(0|[1-9][0-9]{0,13})\z`)

// model is a Wal as the chapter tells it.
type model struct {
	d      *disk.Disk
	h      api.Hard
	there  bool
	number int
	failed bool
}

// opening is what an Open must do, and the model behind it.
func opening(d *disk.Disk) (*model, []change) {
	var all []int
	for _, name := range d.Names() {
		if part := segmentName.FindStringSubmatch(name); part != nil {
			n, _ := strconv.Atoi(part[1])
			all = append(all, n)
		}
	}
	sort.Ints(all)
	m := &model{d: d, h: api.Hard{Vote: -1}}
	var l []change
	for _, n := range all {
		b, _ := d.Read(file(n))
		s := readFile(b)
		if !s.whole {
			continue
		}
		m.h, m.there, m.number, l = s.h, true, n, nil
		if s.end != len(b) {
			l = []change{{kind: "cut", name: file(n), n: s.end}}
		}
	}
	for _, n := range all {
		if !m.there || n != m.number {
			l = append(l, change{kind: "remove", name: file(n)})
		}
	}
	if m.there {
		l = append(l, change{kind: "sync", name: file(m.number)})
	}
	return m, l
}

// same tells whether two Hards are one, an empty Log being one that isn't.
func same(a, b api.Hard) bool {
	x, y := a, b
	x.Log, y.Log = nil, nil
	return fmt.Sprint(x) == fmt.Sprint(y) && a.Snap == b.Snap && slices.Equal(a.Log, b.Log)
}

// why says for which reasons h has to be laid anew.
func (m *model) why(h api.Hard) string {
	if !m.there {
		return "none"
	}
	var all []string
	b, _ := m.d.Read(file(m.number))
	for _, r := range []struct {
		is   bool
		what string
	}{
		{len(b) > longFile, "long"},
		{h.Base != m.h.Base, "Base"},
		{h.BaseTerm != m.h.BaseTerm, "BaseTerm"},
		{h.Members != m.h.Members, "Members"},
		{h.Term < m.h.Term, "Term"},
		{h.Term == m.h.Term && m.h.Vote != -1 && m.h.Vote != h.Vote, "Vote"},
	} {
		if r.is {
			all = append(all, r.what)
		}
	}
	return strings.Join(all, " ")
}

// steps are the records by which m comes to be h, and the Hards on the way, from what it is on.
func (m *model) steps(h api.Hard) ([][]byte, []api.Hard) {
	now := bare(m.h)
	var l [][]byte
	way := []api.Hard{now}
	step := func(p []byte, next api.Hard) {
		l, way, now = append(l, p), append(way, next), next
	}
	if now.Term != h.Term || now.Vote != h.Vote {
		next := now
		next.Term, next.Vote = h.Term, h.Vote
		step(vote(h.Term, h.Vote), next)
	}
	keep := 0
	for keep < min(len(now.Log), len(h.Log)) && now.Log[keep] == h.Log[keep] {
		keep++
	}
	if keep != len(now.Log) {
		next := now
		next.Log = now.Log[:keep:keep]
		step(cut(now.Base+keep), next)
	}
	for _, e := range h.Log[keep:] {
		next := now
		next.Log = append(slices.Clip(now.Log), e)
		step(entry(e), next)
	}
	return l, way
}

// laid are the records of a segment that is laid anew.
func laid(h api.Hard) [][]byte {
	l := [][]byte{begin(h)}
	for _, e := range h.Log {
		l = append(l, entry(e))
	}
	return append(l, ready())
}

// saving is what a Save of h must do: its changes, or why it is refused ahead of them.
func (m *model) saving(h api.Hard) ([]change, api.Errno) {
	switch {
	case wrong(h) != "":
		return nil, api.ErrArg
	case m.failed:
		return nil, api.ErrDown
	case m.there && same(m.h, bare(h)):
		return nil, api.OK
	case m.why(h) == "":
		l, _ := m.steps(h)
		return []change{{kind: "append", name: file(m.number), p: records(l...)}, {kind: "sync", name: file(m.number)}}, api.OK
	case m.number == lastNumber:
		return nil, api.ErrFull
	}
	to := file(m.number + 1)
	l := []change{{kind: "append", name: to, p: records(laid(h)...)}, {kind: "sync", name: to}}
	if m.there {
		l = append(l, change{kind: "remove", name: file(m.number)})
	}
	return l, api.OK
}

// save does to the model what a Save of h must.
func (m *model) save(h api.Hard) api.Errno {
	l, e := m.saving(h)
	if e != api.OK || l == nil {
		return e
	}
	anew := m.why(h) != ""
	if e = does(m.d, l); e != api.OK {
		m.failed = true
		return e
	}
	m.h = bare(h)
	m.h.Log = slices.Clone(h.Log)
	if anew {
		m.number++
		m.there = true
	}
	return api.OK
}

// pair is a disk with a Wal, and its twin with the model: the same is done to both, and both must look alike.
type pair struct {
	d, twin *disk.Disk
	w       *wal.Wal
	m       *model
}

func both() *pair { return &pair{d: disk.New(), twin: disk.New()} }

// lay puts a file to both disks.
func (p *pair) lay(name string, b []byte) {
	p.d.Append(name, b)
	p.twin.Append(name, b)
}

func (p *pair) arm(n int) {
	p.d.Arm(n)
	p.twin.Arm(n)
}

func (p *pair) crash(picks ...int) {
	p.d.Crash(picks...)
	p.twin.Crash(picks...)
}

// open opens both; where that is refused the Wals of before stay.
func (p *pair) open(t *testing.T) api.Errno {
	t.Helper()
	w, e := wal.Open(p.d)
	m, l := opening(p.twin)
	if want := does(p.twin, l); e != want {
		t.Fatalf("Open: %d, not %d", e, want)
	}
	if (w == nil) != (e != api.OK) {
		t.Fatalf("Open: %d, and %v", e, w)
	}
	if e == api.OK {
		p.w, p.m = w, m
	}
	p.alike(t)
	return e
}

// opened opens both, which must be fine.
func (p *pair) opened(t *testing.T) *pair {
	t.Helper()
	if e := p.open(t); e != api.OK {
		t.Fatalf("Open: %d", e)
	}
	return p
}

func (p *pair) save(t *testing.T, h api.Hard) api.Errno {
	t.Helper()
	got, want := p.w.Save(h), p.m.save(h)
	if got != want {
		t.Fatalf("Save of %s: %d, not %d", brief(h), got, want)
	}
	p.alike(t)
	return got
}

// saved saves, which must be fine.
func (p *pair) saved(t *testing.T, l ...api.Hard) *pair {
	t.Helper()
	for _, h := range l {
		if e := p.save(t, h); e != api.OK {
			t.Fatalf("Save of %s: %d", brief(h), e)
		}
	}
	return p
}

// alike fails, if what can be seen of the two is not the same.
func (p *pair) alike(t *testing.T) {
	t.Helper()
	p.alikeFiles(t)
	if p.w != nil {
		isHard(t, p.w, p.m.h)
	}
}

// alikeFiles looks at the disks alone.
func (p *pair) alikeFiles(t *testing.T) {
	t.Helper()
	names := p.twin.Names()
	if got := p.d.Names(); !slices.Equal(got, names) {
		t.Fatalf("Names %q, not %q", got, names)
	}
	if p.d.Off() != p.twin.Off() {
		t.Fatalf("Off %v", p.d.Off())
	}
	for _, name := range names {
		got, _ := p.d.Read(name)
		want, _ := p.twin.Read(name)
		if !bytes.Equal(got, want) {
			t.Fatalf("%s: % x, not % x", name, got[:min(len(got), 200)], want[:min(len(want), 200)])
		}
	}
}

// isHard fails, if the Wal's Hard is not h, or has a Snap.
func isHard(t *testing.T, w *wal.Wal, h api.Hard) {
	t.Helper()
	if got := w.Hard(); !same(got, h) {
		t.Fatalf("Hard %s, not %s", brief(got), brief(h))
	}
}

// brief is h without its long texts.
func brief(h api.Hard) string {
	log := slices.Clone(h.Log)
	for k := range log {
		log[k].Data = short(log[k].Data)
	}
	h.Snap, h.Log = short(h.Snap), log[:min(len(log), 8)]
	return fmt.Sprintf("%+v (%d entries)", h, len(log))
}

func short(s string) string {
	if len(s) > 12 {
		return fmt.Sprintf("%s.. (%d)", s[:8], len(s))
	}
	return s
}

// files are what a disk has, as texts by names.
func files(d *disk.Disk) map[string]string {
	all := map[string]string{}
	for _, name := range d.Names() {
		b, _ := d.Read(name)
		all[name] = string(b)
	}
	return all
}

// names fails, if the disk has other files.
func names(t *testing.T, d *disk.Disk, want ...string) {
	t.Helper()
	if got := d.Names(); !slices.Equal(got, want) {
		t.Fatalf("Names %q, not %q", got, want)
	}
}

// holds fails, if the file hasn't just these bytes.
func holds(t *testing.T, d *disk.Disk, name string, want []byte) {
	t.Helper()
	if got, ok := d.Read(name); !ok || !bytes.Equal(got, want) {
		t.Fatalf("%s: % x, %v, not % x", name, got[:min(len(got), 200)], ok, want[:min(len(want), 200)])
	}
}

// en and of make entries: of Data, and of Members.
func en(term int, data string) api.Entry { return api.Entry{Term: term, Data: data} }
func of(term, members int) api.Entry     { return api.Entry{Term: term, Members: members} }

// log is a list of entries.
func log(l ...api.Entry) []api.Entry { return l }
