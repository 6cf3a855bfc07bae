package wal_test

import (
	"fmt"
	"math/rand"
	"slices"
	"strings"
	"testing"

	"impost/api"
	"impost/disk"
	"impost/wal"
)

// The table 'Runs'

func TestRuns(t *testing.T) {
	d := disk.New()
	w, e := wal.Open(d)
	if e != api.OK {
		t.Fatal(e)
	}
	fine := func(h api.Hard) {
		t.Helper()
		if e := w.Save(h); e != api.OK {
			t.Fatalf("Save of %s: %d", brief(h), e)
		}
	}
	h := api.Hard{Term: 1, Vote: 0, Members: 7}
	fine(h)
	names(t, d, "wal.1")
	h.Log = log(en(1, "x"))
	fine(h)
	if w, e = wal.Open(d); e != api.OK || !slices.Equal(w.Hard().Log, log(en(1, "x"))) {
		t.Fatalf("%d, %s", e, brief(w.Hard()))
	}
	h.Base, h.BaseTerm, h.Snap, h.Log = 1, 1, "s", nil
	fine(h)
	names(t, d, "wal.2")
	if e := w.Save(api.Hard{Vote: 9, Members: 7}); e != api.ErrArg {
		t.Fatalf("Vote 9: %d", e)
	}
}

// P18.4

// based is right, and has room to go to anything near it.
func based() api.Hard {
	return api.Hard{Term: 5, Vote: -1, Base: 4, BaseTerm: 2, Members: 7, Snap: "snap", Log: log(en(2, "a"), en(3, "b"), of(3, 5), en(5, "d"))}
}

// from is a pair that has saved h.
func from(t *testing.T, h api.Hard) *pair {
	t.Helper()
	return both().opened(t).saved(t, h)
}

// turned is based with something else.
func turned(turns ...func(h *api.Hard)) api.Hard {
	h := based()
	for _, turn := range turns {
		turn(&h)
	}
	return h
}

func term(n int) func(h *api.Hard)            { return func(h *api.Hard) { h.Term = n } }
func voted(n int) func(h *api.Hard)           { return func(h *api.Hard) { h.Vote = n } }
func members(n int) func(h *api.Hard)         { return func(h *api.Hard) { h.Members = n } }
func on(n, term int) func(h *api.Hard)        { return func(h *api.Hard) { h.Base, h.BaseTerm = n, term } }
func snap(s string) func(h *api.Hard)         { return func(h *api.Hard) { h.Snap = s } }
func logged(l ...api.Entry) func(h *api.Hard) { return func(h *api.Hard) { h.Log = l } }
func plus(l ...api.Entry) func(h *api.Hard)   { return func(h *api.Hard) { h.Log = append(h.Log, l...) } }
func fewer(n int) func(h *api.Hard)           { return func(h *api.Hard) { h.Log = h.Log[:len(h.Log)-n] } }
func baseless(h *api.Hard)                    { h.Base, h.BaseTerm, h.Snap = 0, 0, "" }

// TestSaveWrites has what is appended written out by hand, record by record; none: it is laid anew.
func TestSaveWrites(t *testing.T) {
	long := strings.Repeat("x", longEntry)
	for what, c := range map[string]struct {
		was, h api.Hard
		want   [][]byte
	}{
		"a vote":                  {based(), turned(voted(6)), [][]byte{vote(5, 6)}},
		"a vote for 0":            {based(), turned(voted(0)), [][]byte{vote(5, 0)}},
		"a Term":                  {based(), turned(term(6)), [][]byte{vote(6, -1)}},
		"the last Term":           {based(), turned(term(topTerm)), [][]byte{vote(topTerm, -1)}},
		"a Term and a vote":       {based(), turned(term(7), voted(3)), [][]byte{vote(7, 3)}},
		"a Term, the same vote":   {turned(voted(3)), turned(term(7), voted(3)), [][]byte{vote(7, 3)}},
		"a Term, no vote":         {turned(voted(3)), turned(term(7)), [][]byte{vote(7, -1)}},
		"a Term, another vote":    {turned(voted(3)), turned(term(7), voted(2)), [][]byte{vote(7, 2)}},
		"an entry":                {based(), turned(plus(en(5, "e"))), [][]byte{entry(en(5, "e"))}},
		"the same entry again":    {based(), turned(plus(en(5, "d"))), [][]byte{entry(en(5, "d"))}},
		"entries":                 {based(), turned(plus(en(5, ""), of(5, 127), en(5, long))), [][]byte{entry(en(5, "")), entry(of(5, 127)), entry(en(5, long))}},
		"one fewer":               {based(), turned(fewer(1)), [][]byte{cut(7)}},
		"three fewer":             {based(), turned(fewer(3)), [][]byte{cut(5)}},
		"none":                    {based(), turned(logged()), [][]byte{cut(4)}},
		"none, Base 0":            {turned(baseless), turned(baseless, logged()), [][]byte{cut(0)}},
		"the first of no Base":    {turned(baseless, logged()), turned(baseless, logged(en(1, "q"))), [][]byte{entry(en(1, "q"))}},
		"the last one other":      {based(), turned(fewer(1), plus(en(5, "D"))), [][]byte{cut(7), entry(en(5, "D"))}},
		"another Term alone":      {based(), turned(fewer(1), plus(en(4, "d"))), [][]byte{cut(7), entry(en(4, "d"))}},
		"other Members alone":     {based(), turned(fewer(2), plus(of(3, 6), en(5, "d"))), [][]byte{cut(6), entry(of(3, 6)), entry(en(5, "d"))}},
		"other Data alone":        {based(), turned(logged(en(2, "a"), en(3, "B"), of(3, 5), en(5, "d"))), [][]byte{cut(5), entry(en(3, "B")), entry(of(3, 5)), entry(en(5, "d"))}},
		"all others":              {based(), turned(logged(en(2, "A"), en(3, "b"), of(3, 5), en(5, "d"))), [][]byte{cut(4), entry(en(2, "A")), entry(en(3, "b")), entry(of(3, 5)), entry(en(5, "d"))}},
		"one taken out":           {based(), turned(logged(en(2, "a"), of(3, 5), en(5, "d"))), [][]byte{cut(5), entry(of(3, 5)), entry(en(5, "d"))}},
		"one put in":              {based(), turned(logged(en(2, "a"), en(2, "a"), en(3, "b"), of(3, 5), en(5, "d"))), [][]byte{cut(5), entry(en(2, "a")), entry(en(3, "b")), entry(of(3, 5)), entry(en(5, "d"))}},
		"a vote and an entry":     {based(), turned(voted(1), plus(en(5, "e"))), [][]byte{vote(5, 1), entry(en(5, "e"))}},
		"a vote and a cut":        {based(), turned(voted(1), fewer(2)), [][]byte{vote(5, 1), cut(6)}},
		"all three":               {based(), turned(term(8), voted(1), fewer(2), plus(en(6, "y"), en(8, "z"))), [][]byte{vote(8, 1), cut(6), entry(en(6, "y")), entry(en(8, "z"))}},
		"all, and another Snap":   {based(), turned(snap("other"), term(8), fewer(4), plus(en(8, "z"))), [][]byte{vote(8, -1), cut(4), entry(en(8, "z"))}},
		"a lesser Term in a cut":  {based(), turned(fewer(2), plus(en(3, "y"))), [][]byte{cut(6), entry(en(3, "y"))}},
		"Base":                    {based(), turned(on(5, 2)), nil},
		"a lesser Base":           {based(), turned(on(3, 2)), nil},
		"no Base":                 {based(), turned(baseless), nil},
		"a first Base":            {turned(baseless), based(), nil},
		"BaseTerm":                {based(), turned(on(4, 1)), nil},
		"Members":                 {based(), turned(members(6)), nil},
		"more Members":            {based(), turned(members(127)), nil},
		"a Term below":            {turned(term(6)), based(), nil},
		"a Term below, and voted": {turned(term(6)), turned(voted(3)), nil},
		"another vote":            {turned(voted(3)), turned(voted(2)), nil},
		"no vote any more":        {turned(voted(3)), based(), nil},
		"no vote for 0 any more":  {turned(voted(0)), based(), nil},
	} {
		p := from(t, c.was)
		head, _ := p.d.Read("wal.1")
		p.saved(t, c.h)
		if c.want != nil {
			names(t, p.d, "wal.1")
			holds(t, p.d, "wal.1", slices.Concat(head, records(c.want...)))
		} else {
			names(t, p.d, "wal.2")
			holds(t, p.d, "wal.2", records(laid(c.h)...))
		}
		isHard(t, p.w, bare(c.h))
		p.crash()
		p.opened(t)
		if got := p.w.Hard(); !same(got, bare(c.h)) {
			t.Errorf("%s: %s", what, brief(got))
		}
	}
}

// TestSaveIsOneAppendAndASync has a vote, a cut and entries: with one change less the Hard stays.
func TestSaveIsOneAppendAndASync(t *testing.T) {
	h := turned(term(8), voted(1), fewer(2), plus(en(6, "y"), en(8, "z")))
	for n := range 4 {
		p := from(t, based())
		head, _ := p.d.Read("wal.1")
		rest := records(vote(8, 1), cut(6), entry(en(6, "y")), entry(en(8, "z")))
		p.d.Arm(n)
		e := p.w.Save(h)
		if (e == api.OK) != (n >= 2) || e != api.OK && e != api.ErrDown || p.d.Off() != (n < 2) {
			t.Fatalf("%d: %d, Off %v", n, e, p.d.Off())
		}
		names(t, p.d, "wal.1")
		if n == 0 {
			rest = nil
		}
		holds(t, p.d, "wal.1", slices.Concat(head, rest))
		if n < 2 {
			rest = nil
			isHard(t, p.w, bare(based()))
		} else {
			isHard(t, p.w, bare(h))
		}
		p.d.Crash()
		holds(t, p.d, "wal.1", slices.Concat(head, rest))
	}
}

// TestSaveOfWhatIsNotRight changes nothing, with an error of the disk ahead of it too.
func TestSaveOfWhatIsNotRight(t *testing.T) {
	bad := []api.Hard{
		{}, turned(term(-1)), turned(term(4)), turned(term(topTerm + 1)), turned(voted(-2)), turned(voted(7)), turned(on(0, 0)), turned(on(-1, 1)), turned(on(topIndex-3, 2)), turned(on(4, 0)), turned(on(4, 3)), turned(members(0)), turned(members(128)), turned(snap("")), turned(snap(strings.Repeat("s", longImage+1))),
		turned(baseless, snap("s")), turned(plus(en(4, ""))), turned(plus(en(6, ""))), turned(plus(of(5, 128))), turned(plus(api.Entry{Term: 5, Members: 1, Data: "x"})), turned(plus(en(5, strings.Repeat("x", longEntry+1)))), turned(plus(slices.Repeat(log(en(5, "")), longLog-3)...)),
	}
	for i, h := range bad {
		p := both().opened(t)
		p.arm(0)
		if e := p.save(t, h); e != api.ErrArg || p.d.Off() {
			t.Errorf("%d, without a segment: %d", i, e)
		}
		p = from(t, based())
		p.arm(0)
		if e := p.save(t, h); e != api.ErrArg || p.d.Off() {
			t.Errorf("%d: %d", i, e)
		}
		p.arm(-1)
		p.saved(t, turned(voted(2)))
		p.arm(0)
		p.save(t, turned(voted(2), plus(en(5, "e"))))
		if e := p.save(t, h); e != api.ErrArg {
			t.Errorf("%d, behind an error of the disk: %d", i, e)
		}
		if e := p.save(t, turned(voted(2))); e != api.ErrDown {
			t.Errorf("%d: the right one: %d", i, e)
		}
	}
}

// TestSaveOfTheSame needs no change of the disk, and no power: of nothing, not even behind much.
func TestSaveOfTheSame(t *testing.T) {
	for _, h := range []api.Hard{based(), turned(voted(3)), turned(baseless), turned(logged()), {Vote: -1, Members: 1}, {Members: 127}} {
		p := from(t, h)
		was := files(p.d)
		p.arm(0)
		p.saved(t, h, h)
		if h.Base != 0 {
			other := h
			other.Snap = strings.Repeat("t", longImage)
			p.saved(t, other, h)
		}
		p.arm(-1)
		p.opened(t)
		p.arm(0)
		p.saved(t, h)
		if fmt.Sprint(files(p.d)) != fmt.Sprint(was) {
			t.Errorf("%q became %q", was, files(p.d))
		}
		// the power is gone, but nobody needed it yet
		p.arm(0)
		p.d.Append("z", nil)
		p.twin.Append("z", nil)
		p.saved(t, h)
		if e := p.save(t, turned(term(9), voted(5))); e != api.ErrDown {
			t.Errorf("without power: %d", e)
		}
		if e := p.save(t, h); e != api.ErrDown {
			t.Errorf("the same, behind an error: %d", e)
		}
	}
	// what none is, is nothing's Hard, but not right
	p := both().opened(t)
	if e := p.save(t, p.w.Hard()); e != api.ErrArg {
		t.Errorf("the Hard of none: %d", e)
	}
}

// TestEachVoteBehindEachVote goes from each Term and Vote to each other.
func TestEachVoteBehindEachVote(t *testing.T) {
	for _, a := range []int{5, 6} {
		for _, b := range []int{5, 6, 7} {
			for v := -1; v <= 6; v++ {
				for u := -1; u <= 6; u++ {
					p := from(t, turned(term(a), voted(v)))
					p.saved(t, turned(term(b), voted(u)))
					want := "wal.1"
					if b < a || b == a && v != -1 && u != v {
						want = "wal.2"
					}
					names(t, p.d, want)
				}
			}
		}
	}
}

// TestEachReasonForLayingAnew has each set of them, with entries that come and go.
func TestEachReasonForLayingAnew(t *testing.T) {
	turns := []func(h *api.Hard){on(6, 2), on(4, 1), members(3), term(4), voted(1)}
	for set := range 1 << len(turns) {
		for _, l := range [][]api.Entry{nil, log(en(2, "a")), log(en(2, "a"), en(3, "c")), log(en(2, "A"), en(4, "d"))} {
			was := turned(voted(2), logged(en(2, "a"), en(3, "b")))
			h := was
			h.Log = l
			for k, turn := range turns {
				if set>>k&1 == 1 {
					turn(&h)
				}
			}
			if set&3 == 3 {
				h.Base, h.BaseTerm = 6, 1
			}
			p := from(t, was).saved(t, h)
			want := "wal.2"
			if set == 0 {
				want = "wal.1"
			}
			names(t, p.d, want)
			p.crash()
			p.opened(t)
			isHard(t, p.w, bare(h))
		}
	}
}

// sizedFile is a pair whose segment's file has so many bytes: records that leave nothing are put behind others.
func sizedFile(t *testing.T, size int) *pair {
	t.Helper()
	h := turned(logged())
	b := records(laid(h)...)
	pad := len(records(entry(en(5, "")), cut(4)))
	for size-len(b) > pad+1000 {
		b = append(b, records(entry(en(5, strings.Repeat("x", 500))), cut(4))...)
	}
	// a text's length takes a byte more from 64 on
	n := size - len(b) - pad
	if n > 63 {
		n--
	}
	b = append(b, records(entry(en(5, strings.Repeat("x", n))), cut(4))...)
	if len(b) != size {
		t.Fatalf("%d bytes, not %d", len(b), size)
	}
	p := both()
	p.lay("wal.4", b)
	p.opened(t)
	isHard(t, p.w, bare(h))
	return p
}

// TestSaveOfALongFile has MaxSegment bytes, one fewer and more.
func TestSaveOfALongFile(t *testing.T) {
	for size := longFile - 3; size <= longFile+3; size++ {
		for _, h := range []api.Hard{turned(logged(), voted(2)), turned(logged(en(5, "n"))), turned(logged(), term(7)), turned(logged(), members(2))} {
			p := sizedFile(t, size)
			p.saved(t, turned(logged()))
			names(t, p.d, "wal.4")
			p.saved(t, h)
			want := "wal.4"
			if size > longFile || h.Members == 2 {
				want = "wal.5"
			}
			names(t, p.d, want)
		}
	}
}

// TestSaveGrowsAFile saves entry by entry: the one that goes beyond is yet appended, the next one not.
func TestSaveGrowsAFile(t *testing.T) {
	h := api.Hard{Term: 1, Vote: -1, Members: 7}
	p := from(t, h)
	was, anew := 0, 0
	for n := range 150 {
		name := p.d.Names()[0]
		b, _ := p.d.Read(name)
		was = len(b)
		h.Log = append(h.Log, en(1, strings.Repeat("x", 37*n%1000)))
		if n%40 == 39 {
			h.Log = h.Log[:5]
		}
		p.saved(t, h)
		if changed := p.d.Names()[0] != name; changed != (was > longFile) {
			t.Fatalf("%d: %d bytes, %q", n, was, p.d.Names())
		} else if changed {
			anew++
		}
		p.crash()
		if n%3 == 0 {
			p.opened(t)
		}
	}
	if anew < 10 {
		t.Errorf("laid anew %d times", anew)
	}
}

// TestSaveOfALot has one Append of all that there may be.
func TestSaveOfALot(t *testing.T) {
	long := strings.Repeat("x", longEntry)
	h := api.Hard{Term: topTerm, Vote: -1, Base: topIndex - longLog, BaseTerm: topTerm, Members: 127, Snap: strings.Repeat("s", longImage)}
	p := from(t, h)
	h.Log = slices.Repeat(log(en(topTerm, long)), longLog)
	p.saved(t, h)
	names(t, p.d, "wal.1")
	p.opened(t)
	isHard(t, p.w, bare(h))
	h.Members = 1
	p.saved(t, h)
	names(t, p.d, "wal.2")
	p.crash()
	p.opened(t)
	isHard(t, p.w, bare(h))
}

// P18.5

// TestLaidAnewInOrder lets one change more be done each time, where there is none and where there is one.
func TestLaidAnewInOrder(t *testing.T) {
	h := turned(members(3), plus(en(5, "new")))
	b := records(laid(h)...)
	for n := range 4 {
		p := both().opened(t)
		p.d.Arm(n)
		if e := p.w.Save(h); (e == api.OK) != (n >= 2) || e != api.OK && e != api.ErrDown {
			t.Fatalf("none, %d: %d", n, e)
		}
		if n == 0 {
			names(t, p.d)
			continue
		}
		holds(t, p.d, "wal.1", b)
		p.d.Crash()
		holds(t, p.d, "wal.1", b[:min(n-1, 1)*len(b)])
	}
	for n := range 5 {
		p := from(t, based())
		old, _ := p.d.Read("wal.1")
		p.d.Arm(n)
		if e := p.w.Save(h); (e == api.OK) != (n >= 3) || e != api.OK && e != api.ErrDown {
			t.Fatalf("%d: %d", n, e)
		}
		want := [][]string{{"wal.1"}, {"wal.1", "wal.2"}, {"wal.1", "wal.2"}, {"wal.2"}, {"wal.2"}}[n]
		names(t, p.d, want...)
		if n < 3 {
			isHard(t, p.w, bare(based()))
			holds(t, p.d, "wal.1", old)
		} else {
			isHard(t, p.w, bare(h))
		}
		if n > 0 {
			holds(t, p.d, "wal.2", b)
			p.d.Crash()
			holds(t, p.d, "wal.2", b[:min(n-1, 1)*len(b)])
		}
	}
}

// TestLaidAnewOverAndOver has the numbers go up by one, behind each Open too.
func TestLaidAnewOverAndOver(t *testing.T) {
	for _, first := range []int{0, 1, 8, 98, 1<<31 - 2, 9999999999998, lastNumber - 12} {
		p := both()
		p.lay(file(first), records(laid(based())...))
		p.opened(t)
		for k := range 12 {
			p.saved(t, turned(members(1+k%2)))
			names(t, p.d, file(first+k+1))
			if k%5 == 2 {
				p.crash()
				p.opened(t)
			}
		}
	}
	p := both().opened(t)
	for k := range 30 {
		p.saved(t, turned(members(1+k%2)))
		names(t, p.d, file(k+1))
	}
}

// TestTheGreatestNumber has a segment of 14 nines: what needs no new one may yet be saved, and nothing is done of what does.
func TestTheGreatestNumber(t *testing.T) {
	p := both()
	p.lay(file(lastNumber-1), records(laid(based())...))
	p.opened(t).saved(t, turned(members(3)))
	names(t, p.d, "wal.99999999999999")
	now := turned(members(3))
	for k := range 6 {
		was := files(p.d)
		p.arm(0)
		for _, h := range []api.Hard{turned(members(1)), turned(members(3), on(9, 2)), turned(members(3), on(4, 1)), turned(members(3), term(now.Term-1), logged())} {
			if e := p.save(t, h); e != api.ErrFull || p.d.Off() {
				t.Fatalf("%d: %d, Off %v", k, e, p.d.Off())
			}
		}
		isHard(t, p.w, bare(now))
		if fmt.Sprint(files(p.d)) != fmt.Sprint(was) {
			t.Fatalf("%d: other files", k)
		}
		p.arm(-1)
		p.saved(t, now)
		now = turned(members(3), term(6+k), voted(k))
		p.saved(t, now)
		names(t, p.d, "wal.99999999999999")
		if k%2 == 1 {
			p.opened(t)
		}
	}
	if e := p.save(t, api.Hard{Vote: 9}); e != api.ErrArg {
		t.Errorf("not right: %d", e)
	}
	if e := p.save(t, turned(members(3), term(now.Term), voted(6))); e != api.ErrFull {
		t.Errorf("another vote: %d", e)
	}
	// behind an error of the disk it is that which is told
	p.arm(0)
	p.save(t, turned(members(3), term(20)))
	if e := p.save(t, turned(members(1))); e != api.ErrDown {
		t.Errorf("behind an error: %d", e)
	}
}

// TestTheGreatestNumberGrowsLong has its file go beyond MaxSegment, by which nothing but the same can be saved.
func TestTheGreatestNumberGrowsLong(t *testing.T) {
	h := turned(logged())
	p := both()
	p.lay(file(lastNumber), records(laid(h)...))
	p.opened(t)
	for {
		b, _ := p.d.Read(file(lastNumber))
		next := h
		next.Log = append(slices.Clip(h.Log), en(5, strings.Repeat("x", 900)))
		e := p.save(t, next)
		if (e == api.ErrFull) != (len(b) > longFile) || e != api.OK && e != api.ErrFull {
			t.Fatalf("%d bytes: %d", len(b), e)
		}
		if e != api.OK {
			break
		}
		h = next
	}
	p.saved(t, h)
	isHard(t, p.w, bare(h))
}

// TestErrorsOfTheDisk has each change of a Save refused for want of power, and an Append for want of room.
func TestErrorsOfTheDisk(t *testing.T) {
	for _, h := range []api.Hard{turned(voted(3)), turned(plus(en(5, "e"))), turned(fewer(2)), turned(members(1)), turned(on(8, 5), logged())} {
		for n := range 3 {
			p := from(t, based())
			p.arm(n)
			if e := p.save(t, h); e == api.OK {
				continue
			} else if e != api.ErrDown {
				t.Fatalf("%d: %d", n, e)
			}
			p.refuses(t, h)
			// power comes back, and nobody asks the file: what it has must be read again
			p.crash()
			p.refuses(t, h)
			p.opened(t).saved(t, h)
		}
	}
}

// refuses fails, if a Save isn't refused as behind an error, of whatever is right.
func (p *pair) refuses(t *testing.T, l ...api.Hard) {
	t.Helper()
	was := files(p.d)
	for _, h := range append(l, based(), turned(term(9)), turned(members(2)), snapped(p.w.Hard())) {
		if e := p.save(t, h); e != api.ErrDown {
			t.Fatalf("behind an error: %d", e)
		}
	}
	isHard(t, p.w, bare(based()))
	if fmt.Sprint(files(p.d)) != fmt.Sprint(was) {
		t.Fatalf("behind an error other files")
	}
}

// TestAFullDisk leaves room for just the records, or for one byte fewer.
func TestAFullDisk(t *testing.T) {
	for _, h := range []api.Hard{turned(voted(3)), turned(plus(en(5, "e"))), turned(fewer(2), term(9)), turned(members(1)), turned(on(8, 5), logged())} {
		twin := from(t, based())
		l, _ := twin.m.saving(h)
		for _, short := range []int{0, 1, len(l[0].p)} {
			p := from(t, based())
			p.lay("big", make([]byte, api.MaxDisk-p.d.Total()-len(l[0].p)+short))
			was := files(p.d)
			e := p.save(t, h)
			if want := map[bool]api.Errno{true: api.OK, false: api.ErrFull}[short == 0]; e != want {
				t.Fatalf("%d bytes short: %d, not %d", short, e, want)
			}
			if short == 0 {
				continue
			}
			if fmt.Sprint(files(p.d)) != fmt.Sprint(was) {
				t.Fatal("other files")
			}
			p.refuses(t, h)
			p.d.Remove("big")
			p.twin.Remove("big")
			p.refuses(t, h)
			p.opened(t).saved(t, h)
		}
	}
}

// TestDrawnSaves has Saves one behind the other, with Opens, arms and crashes between.
func TestDrawnSaves(t *testing.T) {
	draw := rand.New(rand.NewSource(184))
	seen, laidFor := map[api.Errno]int{}, map[string]int{}
	for round := range 400 {
		p := both().opened(t)
		now := api.Hard{Term: 1, Vote: -1, Members: 3}
		for range 40 {
			if draw.Intn(6) == 0 {
				p.arm(draw.Intn(6))
			}
			// in each third round the file grows long, as little else is drawn
			h := drawnNext(draw, now, round%3*draw.Intn(8))
			if why := p.m.why(h); wrong(h) == "" && !p.m.failed && !same(p.m.h, bare(h)) {
				laidFor[why]++
			}
			e := p.save(t, h)
			seen[e]++
			if e == api.OK {
				now = h
			}
			if e == api.ErrDown || draw.Intn(9) == 0 {
				p.crash(drawnPicks(draw)...)
				for p.open(t) != api.OK {
					p.crash(drawnPicks(draw)...)
				}
				now = snapped(p.w.Hard())
				if wrong(now) != "" {
					now = api.Hard{Term: 1, Vote: -1, Members: 3}
				}
			}
		}
	}
	for _, e := range []api.Errno{api.OK, api.ErrArg, api.ErrDown} {
		if seen[e] < 300 {
			t.Errorf("%v", seen)
		}
	}
	for _, why := range []string{"", "none", "long", "Base", "BaseTerm", "Members", "Term", "Vote"} {
		if laidFor[why] < 20 {
			t.Errorf("%q: %v", why, laidFor)
		}
	}
}

// drawnNext is what h may become, right or not: it grows, if often isn't above 0.
func drawnNext(draw *rand.Rand, h api.Hard, often int) api.Hard {
	h.Log = slices.Clone(h.Log)
	if often == 0 && draw.Intn(30) > 0 {
		return grown(draw, h, 1+draw.Intn(9))
	}
	switch draw.Intn(16) {
	case 0:
		h.Term += draw.Intn(4) - 1
	case 1:
		h.Vote = draw.Intn(9) - 2
	case 2:
		h.Term, h.Vote = h.Term+1, draw.Intn(4)-1
	case 3:
		h.Members = draw.Intn(4)
	case 4:
		return drawnHard(draw)
	case 5:
		// a snapshot comes: some entries go into it
		k := draw.Intn(len(h.Log) + 1)
		if k > 0 {
			h.Base, h.BaseTerm, h.Log, h.Snap = h.Base+k, h.Log[k-1].Term, h.Log[k:], "snap"
		}
	case 6:
		h.BaseTerm = draw.Intn(h.Term + 1)
	case 7, 8:
		h.Log = h.Log[:draw.Intn(len(h.Log)+1)]
	case 9:
		h.Log = h.Log[:draw.Intn(len(h.Log)+1)]
		return grown(draw, h, 1+draw.Intn(3))
	case 10:
		h.Log = h.Log[:draw.Intn(len(h.Log)+1)]
		h.Term, h.Vote = h.Term+1, draw.Intn(4)-1
		return grown(draw, h, 1+draw.Intn(3))
	case 11:
		h.Base += draw.Intn(3)
	default:
		return grown(draw, h, draw.Intn(4))
	}
	return h
}

// TestTwoWalsOnTwoDisks share nothing.
func TestTwoWalsOnTwoDisks(t *testing.T) {
	a, b := from(t, based()), from(t, turned(members(1)))
	a.saved(t, turned(voted(3)))
	b.saved(t, turned(members(1), logged()))
	a.alike(t)
	a.saved(t, turned(voted(3), plus(en(5, "e"))))
	b.alike(t)
}
