package store_test

import (
	"bytes"
	"encoding/binary"
	"fmt"
	"hash/crc32"
	"math"
	"math/rand"
	"regexp"
	"slices"
	"sort"
	"strconv"
	"strings"
	"testing"

	"impost/api"
	"impost/disk"
	"impost/store"
	"impost/wal"
)

// The limits, written out so that one that slips is seen.
const (
	least     = math.MinInt
	most      = math.MaxInt
	topIndex  = 1099511627776
	topTerm   = 1099511627776
	longImage = 65536
	allOnDisk = 4194304
	lastName  = "wal.99999999999999"
)

// nums is numbers as chapter 2 has them, by the library's own.
func nums(l ...int) []byte {
	var b []byte
	for _, n := range l {
		b = binary.AppendVarint(b, int64(n))
	}
	return b
}

// text is one as chapter 2 has it.
func text(s string) []byte { return append(nums(len(s)), s...) }

// framed are payloads' frames, with the library's sum.
func framed(l ...[]byte) []byte {
	var b []byte
	for _, p := range l {
		f := binary.LittleEndian.AppendUint32(nil, uint32(len(p)))
		f = append(f, p...)
		b = append(b, binary.LittleEndian.AppendUint32(f, koopman(f))...)
	}
	return b
}

func koopman(b []byte) uint32 { return crc32.Checksum(b, crc32.MakeTable(crc32.Koopman)) }

// payload is what h's snapshot file has in its frame.
func payload(h api.Hard) []byte {
	return slices.Concat(nums(h.Base, h.BaseTerm, h.Members), text(h.Snap))
}

// snapFile are the bytes of h's snapshot file.
func snapFile(h api.Hard) []byte { return framed(payload(h)) }

func snapName(base int) string { return "snap." + strconv.Itoa(base) }

// walFile are the bytes of a segment that is laid anew.
func walFile(h api.Hard) []byte {
	l := [][]byte{nums(1, h.Term, h.Vote, h.Base, h.BaseTerm, h.Members)}
	for _, e := range h.Log {
		l = append(l, slices.Concat(nums(2, e.Term, e.Members), text(e.Data)))
	}
	return framed(append(l, nums(3))...)
}

// image is the Snap with which b are the bytes of h's snapshot file: each that there may be is tried.
func image(b []byte, h api.Hard) (string, bool) {
	end := len(b) - 4
	for size := 1; size <= 3; size++ {
		from := 4 + len(nums(h.Base, h.BaseTerm, h.Members)) + size
		if from >= end || end-from > longImage {
			continue
		}
		h.Snap = string(b[from:end])
		if bytes.Equal(snapFile(h), b) {
			return h.Snap, true
		}
	}
	return "", false
}

var (
	snapshotName = regexp.MustCompile(`\Asnap\.[1-9][0-9]{0,13}\z`)
	segmentName  = regexp.MustCompile(`\Awal\.(0|[1-9][0-9]{0,13})\z`)
)

// change is one of a disk's.
type change struct {
	kind, name string
	p          []byte
}

func (c change) on(d *disk.Disk) api.Errno {
	switch c.kind {
	case "append":
		return d.Append(c.name, c.p)
	case "sync":
		return d.Sync(c.name)
	case "rename":
		return d.Rename(c.name, string(c.p))
	case "remove":
		return d.Remove(c.name)
	}
	panic(c.kind)
}

// does does changes up to the first that is refused.
func does(d *disk.Disk, l []change) api.Errno {
	for _, c := range l {
		if e := c.on(d); e != api.OK {
			return e
		}
	}
	return api.OK
}

// model is a Store as the chapter tells it, on a wal, which has tests of its own.
type model struct {
	d      *disk.Disk
	w      *wal.Wal
	h      api.Hard
	failed bool
}

// opened is what an Open must come to.
func opened(d *disk.Disk) (*model, api.Errno) {
	w, e := wal.Open(d)
	if e != api.OK {
		return nil, e
	}
	m := &model{d: d, w: w, h: w.Hard()}
	if m.h.Base != 0 {
		b, there := d.Read(snapName(m.h.Base))
		snap, ok := image(b, m.h)
		if !there || !ok {
			return nil, api.ErrForm
		}
		m.h.Snap = snap
	}
	if e := does(d, others(d, m.h.Base)); e != api.OK {
		return nil, e
	}
	return m, api.OK
}

// others are the removals of snap.tmp and of all snapshot files but one.
func others(d *disk.Disk, base int) []change {
	var l []change
	for _, name := range d.Names() {
		if name == "snap.tmp" || snapshotName.MatchString(name) && name != snapName(base) {
			l = append(l, change{kind: "remove", name: name})
		}
	}
	sort.Slice(l, func(i, j int) bool { return l[i].name < l[j].name })
	return l
}

// laying are the changes by which h's snapshot file comes.
func laying(d *disk.Disk, h api.Hard) []change {
	l := []change{{kind: "append", name: "snap.tmp", p: snapFile(h)}, {kind: "sync", name: "snap.tmp"}, {kind: "rename", name: "snap.tmp", p: []byte(snapName(h.Base))}}
	if slices.Contains(d.Names(), "snap.tmp") {
		l = slices.Insert(l, 0, change{kind: "remove", name: "snap.tmp"})
	}
	return l
}

// save does to the model what a Save of h must. Where there is much room the disk is never full.
func (m *model) save(h api.Hard) api.Errno {
	if !wal.Right(h) {
		return api.ErrArg
	}
	if m.failed {
		return api.ErrDown
	}
	was := m.h
	if h.Base != 0 && (h.Base != was.Base || h.BaseTerm != was.BaseTerm || h.Members != was.Members || h.Snap != was.Snap) {
		if e := does(m.d, laying(m.d, h)); e != api.OK {
			m.failed = true
			return e
		}
	}
	if e := m.w.Save(h); e != api.OK {
		m.failed = e != api.ErrFull || allOnDisk-m.d.Total() < 1<<18
		return e
	}
	m.h = h
	m.h.Log = slices.Clone(h.Log)
	if h.Base == was.Base && h.Snap == was.Snap {
		return api.OK
	}
	e := does(m.d, others(m.d, h.Base))
	m.failed = e != api.OK
	return e
}

// same tells whether two Hards are one, an empty Log being one that isn't.
func same(a, b api.Hard) bool {
	return a.Term == b.Term && a.Vote == b.Vote && a.Base == b.Base && a.BaseTerm == b.BaseTerm && a.Members == b.Members && a.Snap == b.Snap && slices.Equal(a.Log, b.Log)
}

// pair is a disk with a Store, and its twin with the model: the same is done to both, and both must look alike.
type pair struct {
	d, twin *disk.Disk
	s       *store.Store
	m       *model
}

func both() *pair { return &pair{d: disk.New(), twin: disk.New()} }

// lay puts bytes to a file of both disks.
func (p *pair) lay(name string, b []byte) {
	p.d.Append(name, b)
	p.twin.Append(name, b)
}

func (p *pair) remove(name string) {
	p.d.Remove(name)
	p.twin.Remove(name)
}

func (p *pair) arm(n int) {
	p.d.Arm(n)
	p.twin.Arm(n)
}

func (p *pair) crash(picks ...int) {
	p.d.Crash(picks...)
	p.twin.Crash(picks...)
}

// open opens both; where that is refused the Stores of before stay.
func (p *pair) open(t *testing.T) api.Errno {
	t.Helper()
	s, e := store.Open(p.d)
	m, want := opened(p.twin)
	if e != want || (s == nil) != (e != api.OK) {
		t.Fatalf("Open: %v, %d, not %d", s, e, want)
	}
	if e == api.OK {
		p.s, p.m = s, m
	}
	p.alike(t)
	return e
}

// opened opens both, which must be fine.
func (p *pair) opened(t *testing.T) *pair {
	t.Helper()
	if e := p.open(t); e != api.OK {
		t.Fatalf("Open: %d", e)
	}
	return p
}

func (p *pair) save(t *testing.T, h api.Hard) api.Errno {
	t.Helper()
	got, want := p.s.Save(h), p.m.save(h)
	if got != want {
		t.Fatalf("Save of %s: %d, not %d", brief(h), got, want)
	}
	p.alike(t)
	return got
}

// saved saves, which must be fine.
func (p *pair) saved(t *testing.T, l ...api.Hard) *pair {
	t.Helper()
	for _, h := range l {
		if e := p.save(t, h); e != api.OK {
			t.Fatalf("Save of %s: %d", brief(h), e)
		}
	}
	return p
}

// alike fails, if what can be seen of the two is not the same.
func (p *pair) alike(t *testing.T) {
	t.Helper()
	p.alikeFiles(t)
	if p.s != nil {
		isHard(t, p.s, p.m.h)
	}
}

// alikeFiles looks at the disks alone.
func (p *pair) alikeFiles(t *testing.T) {
	t.Helper()
	names := p.twin.Names()
	if got := p.d.Names(); !slices.Equal(got, names) {
		t.Fatalf("Names %q, not %q", got, names)
	}
	if p.d.Off() != p.twin.Off() {
		t.Fatalf("Off %v", p.d.Off())
	}
	for _, name := range names {
		want, _ := p.twin.Read(name)
		holds(t, p.d, name, want)
	}
}

// isHard fails, if the Store's Hard is not h.
func isHard(t *testing.T, s *store.Store, h api.Hard) {
	t.Helper()
	if got := s.Hard(); !same(got, h) {
		t.Fatalf("Hard %s, not %s", brief(got), brief(h))
	}
}

// brief is h without its long texts.
func brief(h api.Hard) string {
	log := slices.Clone(h.Log)
	for k := range log {
		log[k].Data = short(log[k].Data)
	}
	h.Snap, h.Log = short(h.Snap), log[:min(len(log), 8)]
	return fmt.Sprintf("%+v (%d entries)", h, len(log))
}

func short(s string) string {
	if len(s) > 12 {
		return fmt.Sprintf("%s.. (%d)", s[:8], len(s))
	}
	return s
}

// files are what a disk has, as texts by names.
func files(d *disk.Disk) map[string]string {
	all := map[string]string{}
	for _, name := range d.Names() {
		b, _ := d.Read(name)
		all[name] = string(b)
	}
	return all
}

// unchanged fails, if the disk has other files than these.
func unchanged(t *testing.T, d *disk.Disk, was map[string]string) {
	t.Helper()
	if got := files(d); fmt.Sprint(got) != fmt.Sprint(was) {
		t.Fatalf("%.300q became %.300q", fmt.Sprint(was), fmt.Sprint(got))
	}
}

// names fails, if the disk has other files.
func names(t *testing.T, d *disk.Disk, want ...string) {
	t.Helper()
	got := d.Names()
	if slices.Equal(got, want) {
		return
	}
	for _, name := range got {
		if !slices.Contains(want, name) {
			t.Errorf("%q is there", name)
		}
	}
	for _, name := range want {
		if !slices.Contains(got, name) {
			t.Errorf("%q isn't there", name)
		}
	}
	t.FailNow()
}

// holds fails, if the file hasn't just these bytes.
func holds(t *testing.T, d *disk.Disk, name string, want []byte) {
	t.Helper()
	if got, ok := d.Read(name); !ok || !bytes.Equal(got, want) {
		t.Fatalf("%s: % x, %v, not % x", name, got[:min(len(got), 200)], ok, want[:min(len(want), 200)])
	}
}

// en and of make entries: of Data, and of Members.
func en(term int, data string) api.Entry { return api.Entry{Term: term, Data: data} }
func of(term, members int) api.Entry     { return api.Entry{Term: term, Members: members} }

// log is a list of entries.
func log(l ...api.Entry) []api.Entry { return l }

// based is right, and has room to go to anything near it.
func based() api.Hard {
	return api.Hard{Term: 5, Vote: -1, Base: 4, BaseTerm: 2, Members: 7, Snap: "snap", Log: log(en(2, "a"), en(3, "b"), of(3, 5), en(5, "d"))}
}

// turned is based with something else.
func turned(turns ...func(h *api.Hard)) api.Hard {
	h := based()
	for _, turn := range turns {
		turn(&h)
	}
	return h
}

func term(n int) func(h *api.Hard)            { return func(h *api.Hard) { h.Term = n } }
func voted(n int) func(h *api.Hard)           { return func(h *api.Hard) { h.Vote = n } }
func members(n int) func(h *api.Hard)         { return func(h *api.Hard) { h.Members = n } }
func base(n int) func(h *api.Hard)            { return func(h *api.Hard) { h.Base = n } }
func baseTerm(n int) func(h *api.Hard)        { return func(h *api.Hard) { h.BaseTerm = n } }
func snap(s string) func(h *api.Hard)         { return func(h *api.Hard) { h.Snap = s } }
func logged(l ...api.Entry) func(h *api.Hard) { return func(h *api.Hard) { h.Log = l } }
func plus(l ...api.Entry) func(h *api.Hard)   { return func(h *api.Hard) { h.Log = append(h.Log, l...) } }
func fewer(n int) func(h *api.Hard)           { return func(h *api.Hard) { h.Log = h.Log[:len(h.Log)-n] } }
func baseless(h *api.Hard)                    { h.Base, h.BaseTerm, h.Snap = 0, 0, "" }

// from is a pair that has saved h.
func from(t *testing.T, h api.Hard) *pair {
	t.Helper()
	return both().opened(t).saved(t, h)
}

// laid is a disk with h's files, as a Store leaves them.
func laid(h api.Hard) *disk.Disk {
	d := disk.New()
	d.Append("wal.1", walFile(h))
	if h.Base != 0 {
		d.Append(snapName(h.Base), snapFile(h))
	}
	return d
}

// drawnHard is a right one.
func drawnHard(draw *rand.Rand) api.Hard {
	h := api.Hard{Term: draw.Intn(6), Vote: draw.Intn(4) - 1, Members: 1 + draw.Intn(3)}
	if h.Term > 0 && draw.Intn(3) > 0 {
		h.Base, h.BaseTerm, h.Snap = 1+draw.Intn(12), 1+draw.Intn(h.Term), drawnImage(draw)
	}
	return grown(draw, h, draw.Intn(4))
}

func drawnImage(draw *rand.Rand) string {
	return strings.Repeat(string(rune('a'+draw.Intn(3))), 1+draw.Intn(3)*draw.Intn(3)*draw.Intn(20))
}

// grown is h with n entries more, if its Term may have any.
func grown(draw *rand.Rand, h api.Hard, n int) api.Hard {
	h.Log = slices.Clone(h.Log)
	if h.Term < 1 {
		return h
	}
	for range n {
		ahead := max(1, h.BaseTerm)
		if len(h.Log) > 0 {
			ahead = h.Log[len(h.Log)-1].Term
		}
		e := api.Entry{Term: ahead + draw.Intn(h.Term-ahead+1)}
		if draw.Intn(4) == 0 {
			e.Members = 1 + draw.Intn(127)
		} else {
			e.Data = strings.Repeat("x", draw.Intn(9))
		}
		h.Log = append(h.Log, e)
	}
	return h
}

// drawnNext is what h may become, right or not.
func drawnNext(draw *rand.Rand, h api.Hard) api.Hard {
	h.Log = slices.Clone(h.Log)
	switch draw.Intn(14) {
	case 0:
		h.Term, h.Vote = h.Term+draw.Intn(3), draw.Intn(4)-1
	case 1:
		h.Members = draw.Intn(5)
	case 2:
		return drawnHard(draw)
	case 3, 4, 5:
		// a snapshot comes: some entries go into it
		if k := draw.Intn(len(h.Log) + 1); k > 0 {
			h.Base, h.BaseTerm, h.Log, h.Snap = h.Base+k, h.Log[k-1].Term, h.Log[k:], drawnImage(draw)
		}
	case 6:
		h.Base += draw.Intn(5) - 2
	case 7:
		h.BaseTerm = draw.Intn(h.Term + 1)
	case 8:
		h.Snap = drawnImage(draw)
	case 9:
		h.Log = h.Log[:draw.Intn(len(h.Log)+1)]
	default:
		return grown(draw, h, draw.Intn(4))
	}
	return h
}

func drawnPicks(draw *rand.Rand) []int {
	l := make([]int, draw.Intn(9))
	for k := range l {
		l[k] = draw.Intn(400)
	}
	return l
}
