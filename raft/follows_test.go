package raft_test

import (
	"hash/fnv"
	"math/rand"
	"slices"
	"strconv"
	"strings"
	"testing"

	"impost/api"
	"impost/raft"
	"impost/wal"
)

// P22.11

// place is an entry's number and Term.
type place struct{ number, term int }

// stood is an entry, and the term of the one ahead of it.
type stood struct {
	entry api.Entry
	ahead int
}

// group is cores that hear one another's letters alone, and all that was ever seen of them.
type group struct {
	t     *testing.T
	draw  *rand.Rand
	first api.Hard
	l     []*raft.Core
	m     []*model // beside each core, if the group is held against models
	under []api.Letter
	lone  int // the set of those whose letters are lost

	hards  []api.Hard // as they were behind the latest step
	views  []raft.View
	leader map[int]int       // by Terms
	stood  map[place]stood   // what stood in any log
	agreed map[int]api.Entry // what was sure, by numbers
	since  map[int]int       // in which Term it was first
	top    int               // the greatest of these numbers
	sums   map[int]string    // of all agreed entries up to a number
	met    map[string]int
}

func newGroup(t *testing.T, seed int64, first api.Hard, mirrored bool) *group {
	g := &group{
		t: t, draw: rand.New(rand.NewSource(seed)), first: first, top: first.Base,
		leader: map[int]int{}, stood: map[place]stood{}, agreed: map[int]api.Entry{}, since: map[int]int{}, sums: map[int]string{first.Base: first.Snap}, met: map[string]int{},
	}
	for id := 0; id <= topNode; id++ {
		g.l = append(g.l, nil)
		if mirrored {
			g.m = append(g.m, nil)
		}
		g.hards = append(g.hards, first)
		g.views = append(g.views, raft.View{})
		g.anew(id)
	}
	return g
}

// anew makes the core id of its Hard.
func (g *group) anew(id int) {
	d := g.draw.Intn(40) - 20
	c, e := raft.New(id, g.hards[id], d)
	if e != api.OK {
		g.t.Fatalf("New(%d): %d", id, e)
	}
	g.l[id] = c
	if g.m != nil {
		g.m[id] = newModel(id, g.hards[id], d)
	}
	g.views[id] = c.View()
	g.look(id)
}

// sum is what a snapshot of the entries up to n is, if it is true: any two of one number are alike.
func (g *group) sum(n int) string {
	s, is := g.sums[n]
	if is {
		return s
	}
	h := fnv.New64a()
	h.Write([]byte(g.sum(n-1) + "," + strconv.Itoa(g.agreed[n].Term) + "," + strconv.Itoa(g.agreed[n].Members) + "," + g.agreed[n].Data))
	s = strings.Repeat(strconv.FormatUint(h.Sum64(), 36)+"/", 1+n*37%150)
	g.sums[n] = s
	return s
}

// who is who belongs by the agreed entries up to n.
func (g *group) who(n int) int {
	for ; n > g.first.Base; n-- {
		if m := g.agreed[n].Members; m != 0 {
			return m
		}
	}
	return g.first.Members
}

// look holds the core id, to which something was told, against what the chapter says that follows.
func (g *group) look(id int) {
	g.t.Helper()
	h, v, was, before := g.l[id].Hard(), g.l[id].View(), g.hards[id], g.views[id]
	g.hards[id], g.views[id] = h, v
	g.mirror(id, h, v)
	switch {
	case !wal.Right(h):
		g.t.Fatalf("core %d: not right: %s", id, brief(h))
	case h.Term < was.Term:
		g.t.Fatalf("core %d: the Term falls from %d to %d", id, was.Term, h.Term)
	case h.Term == was.Term && was.Vote != -1 && h.Vote != was.Vote:
		g.t.Fatalf("core %d: the Vote in %d goes from %d to %d", id, h.Term, was.Vote, h.Vote)
	case v.Commit < before.Commit:
		g.t.Fatalf("core %d: Commit falls from %d to %d", id, before.Commit, v.Commit)
	case v.Commit > v.Last, v.Last != h.Base+len(h.Log), v.Commit < h.Base:
		g.t.Fatalf("core %d: %+v", id, v)
	}
	g.note(id, h, v, was, before)
	g.alike(id, h)
	g.based(id, h)
	g.leads(id, h, v)
	g.sure(id, h, v)
	g.under = append(g.under, g.l[id].Out()...)
}

// mirror holds it against its model.
func (g *group) mirror(id int, h api.Hard, v raft.View) {
	if g.m == nil {
		return
	}
	m := g.m[id]
	if !sameHard(h, m.hard()) || v != m.view() {
		g.t.Fatalf("core %d: %s, %+v, not %s, %+v", id, brief(h), v, brief(m.hard()), m.view())
	}
}

func (g *group) note(id int, h api.Hard, v raft.View, was api.Hard, before raft.View) {
	happened := func(what string, is bool) {
		if is {
			g.met[what]++
		}
	}
	happened("leads", v.Role == leads && before.Role != leads)
	happened("steps down", v.Role == follows && before.Role == leads && h.Term == was.Term)
	happened("is sure", v.Commit > before.Commit)
	happened("stands on a snapshot", h.Base > before.Commit)
	happened("has other members", v.Members != before.Members)
	happened("is cut", h.Base == was.Base && (len(h.Log) < len(was.Log) || len(was.Log) > 0 && h.Log[len(was.Log)-1] != was.Log[len(was.Log)-1]))
}

// alike: two logs that have an entry with one number and one Term are alike up to there. As each entry is asked for the one ahead of it, one place is enough.
func (g *group) alike(id int, h api.Hard) {
	ahead := h.BaseTerm
	for k, e := range h.Log {
		at := place{h.Base + 1 + k, e.Term}
		s := stood{e, ahead}
		if was, is := g.stood[at]; is && was != s {
			g.t.Fatalf("core %d: at %v stands %v, not %v", id, at, s, was)
		}
		g.stood[at] = s
		ahead = e.Term
	}
}

// based: a snapshot is that of what was agreed on.
func (g *group) based(id int, h api.Hard) {
	if h.Base == g.first.Base {
		return
	}
	if h.Base > g.top || h.BaseTerm != g.agreed[h.Base].Term || h.Snap != g.sum(h.Base) || h.Members != g.who(h.Base) {
		g.t.Fatalf("core %d: stands on %d, %d, %d, %s", id, h.Base, h.BaseTerm, h.Members, brief(h.Snap))
	}
}

// leads: one in each Term at most, and that one has what was sure in Terms before.
func (g *group) leads(id int, h api.Hard, v raft.View) {
	if v.Role != leads {
		return
	}
	if was, is := g.leader[h.Term]; is && was != id {
		g.t.Fatalf("%d and %d lead in %d", was, id, h.Term)
	}
	if _, is := g.leader[h.Term]; !is {
		for n := g.first.Base + 1; n <= g.top; n++ {
			g.mustHave(id, n)
		}
	}
	g.leader[h.Term] = id
}

// mustHave asks that the leader id has the entry n, if that was sure in a Term below.
func (g *group) mustHave(id, n int) {
	h := g.hards[id]
	if g.since[n] >= h.Term || n <= h.Base {
		return
	}
	if k := n - h.Base - 1; k >= len(h.Log) || h.Log[k] != g.agreed[n] {
		g.t.Fatalf("%d leads in %d without the entry %d, sure since %d", id, h.Term, n, g.since[n])
	}
}

// sure: what one's Commit reaches, no other's has otherwise.
func (g *group) sure(id int, h api.Hard, v raft.View) {
	for n := h.Base + 1; n <= v.Commit; n++ {
		e := h.Log[n-h.Base-1]
		if was, is := g.agreed[n]; is {
			if was != e {
				g.t.Fatalf("core %d: the entry %d is %v, not %v", id, n, e, was)
			}
			continue
		}
		if n != g.top+1 {
			g.t.Fatalf("core %d: %d is sure ahead of %d", id, n, g.top+1)
		}
		g.agreed[n], g.since[n], g.top = e, h.Term, n
		for k := range g.l {
			if g.views[k].Role == leads && g.hards[k].Term > h.Term {
				g.mustHave(k, n)
			}
		}
	}
}

func (g *group) tick(id int) {
	d := g.draw.Intn(1000) - 500
	g.l[id].Tick(d)
	if g.m != nil {
		g.m[id].tick(d)
	}
	g.look(id)
}

// take brings the letter k, if it isn't lost; it stays, if it is to come twice.
func (g *group) take(k int, stays bool) {
	m := g.under[k]
	if !stays {
		g.under = slices.Delete(g.under, k, k+1)
	}
	if g.lone>>m.From&1 != g.lone>>m.To&1 {
		return
	}
	g.l[m.To].Take(m)
	if g.m != nil {
		g.m[m.To].take(m)
	}
	g.look(m.To)
}

// someone is any core, mostly one that leads, if there are such.
func (g *group) someone() int {
	var l []int
	for id, v := range g.views {
		if v.Role == leads || g.draw.Intn(9) == 0 {
			l = append(l, id)
		}
	}
	if len(l) == 0 {
		return g.draw.Intn(len(g.l))
	}
	return l[g.draw.Intn(len(l))]
}

// asked asks something of the core id.
func (g *group) asked(id int) {
	switch g.draw.Intn(6) {
	case 0, 1, 2:
		var data []string
		for range 1 + g.draw.Intn(3) {
			data = append(data, strconv.Itoa(g.draw.Intn(1000)))
		}
		g.l[id].Propose(data...)
		if g.m != nil {
			g.m[id].propose(data...)
		}
	case 3, 4:
		n := g.l[id].View().Members ^ 1<<g.draw.Intn(topNode+1)
		g.l[id].Change(n)
		if g.m != nil {
			g.m[id].change(n)
		}
	case 5:
		n := g.l[id].View().Commit - g.draw.Intn(4)
		if n <= g.hards[id].Base {
			return
		}
		g.l[id].Compact(n, g.sum(n))
		if g.m != nil {
			g.m[id].compact(n, g.sum(n))
		}
	}
	g.look(id)
}

// weather is how bad things are: out of 100 letters that come, and out of 1000 steps.
type weather struct{ lost, twice, late, anew, split int }

func (g *group) step(w weather) {
	if g.draw.Intn(1000) < w.split {
		g.lone = []int{0, g.draw.Intn(allNodes + 1), 1 << g.someone(), 1<<g.someone() | 1<<g.draw.Intn(topNode+1)}[g.draw.Intn(4)]
	}
	if g.draw.Intn(1000) < w.anew {
		g.met["is made anew"]++
		g.anew(g.draw.Intn(len(g.l)))
		return
	}
	switch n := g.draw.Intn(20); {
	case n < 7:
		g.tick(g.draw.Intn(len(g.l)))
	case n == 7:
		g.asked(g.someone())
	case len(g.under) == 0:
	case g.draw.Intn(100) < w.lost || len(g.under) > 150:
		k := g.draw.Intn(len(g.under))
		g.under = slices.Delete(g.under, k, k+1)
	default:
		k := 0
		if g.draw.Intn(100) < w.late {
			k = g.draw.Intn(len(g.under))
		}
		g.take(k, g.draw.Intn(100) < w.twice)
	}
}

// TestGroups: what follows holds at each step of any group, however its letters go.
func TestGroups(t *testing.T) {
	met := map[string]int{}
	top := 0
	for seed := range int64(150) {
		first := fresh([]int{7, 31, 3, allNodes, 1, 88}[seed%6])
		if seed%4 == 3 {
			first.Term, first.Base, first.BaseTerm, first.Snap = 4, 50, 3, "first"
			first.Log = []api.Entry{en(3, "a"), en(4, "b")}
		}
		g := newGroup(t, seed, first, seed%3 == 0)
		worst := weather{lost: g.draw.Intn(30), twice: g.draw.Intn(30), late: g.draw.Intn(101), anew: g.draw.Intn(8), split: g.draw.Intn(5)}
		for n := range 6000 {
			w := worst
			if n/300%3 == 2 {
				g.lone, w = 0, weather{late: worst.late}
			}
			g.step(w)
		}
		for what, n := range g.met {
			met[what] += n
		}
		top += g.top - first.Base
	}
	for _, what := range []string{"leads", "steps down", "is sure", "stands on a snapshot", "has other members", "is cut", "is made anew"} {
		if met[what] < 20 {
			t.Errorf("%s: %d", what, met[what])
		}
	}
	if top < 2000 {
		t.Errorf("%d entries were agreed on in all", top)
	}
}

// brings brings up to n letters, the oldest ahead or any.
func (g *group) brings(n int, late bool) {
	for range g.draw.Intn(n) {
		if len(g.under) == 0 {
			return
		}
		k := 0
		if late {
			k = g.draw.Intn(len(g.under))
		}
		g.take(k, g.draw.Intn(10) == 0)
	}
}

// episode lets one core stand, or go on leading, among some of the others for a while.
func (g *group) episode() {
	id := pick(g.draw, listed(g.views[g.someone()].Members)...)
	g.lone = 1 << id
	for f := range g.l {
		if g.draw.Intn(3) > 0 {
			g.lone |= 1 << f
		}
		// whom they heard, they heard a while ago
		for k := 0; k < waits && f != id && g.views[f].Left > 1; k++ {
			g.tick(f)
		}
	}
	for k := 0; k < 2*waits && g.views[id].Role == follows; k++ {
		g.tick(id)
	}
	late := g.draw.Intn(4) == 0
	g.brings(16, late)
	for range g.draw.Intn(3) {
		g.asked(g.someone())
		g.brings(8, late)
	}
	if g.views[id].Role == leads && g.draw.Intn(2) == 0 {
		g.tick(id)
		g.tick(id)
		g.tick(id)
		g.brings(12, late)
	}
	if g.draw.Intn(4) > 0 {
		g.under = g.under[:g.draw.Intn(min(4, len(g.under)+1))]
	}
	if g.draw.Intn(10) == 0 {
		g.met["is made anew"]++
		g.anew(g.draw.Intn(len(g.l)))
	}
}

// TestGroupsWhoseLeadersChange often, each among others: what follows holds at each step.
func TestGroupsWhoseLeadersChange(t *testing.T) {
	met := map[string]int{}
	for seed := range int64(700) {
		g := newGroup(t, 1000+seed, fresh([]int{7, 31, 3, 15}[seed%4]), seed%8 == 0)
		for range 150 {
			g.episode()
		}
		for what, n := range g.met {
			met[what] += n
		}
	}
	for _, what := range []string{"leads", "steps down", "is sure", "stands on a snapshot", "has other members", "is cut", "is made anew"} {
		if met[what] < 20 {
			t.Errorf("%s: %d", what, met[what])
		}
	}
}

// wildLetter is drawn without a thought to what it means.
func wildLetter(d *rand.Rand) api.Letter {
	n := func() int {
		return pick(d, least, -1, 0, 0, 0, 1, 1, 2, 3, 4, 5, 6, 7, 9, 127, 128, longImage, topTerm, topTerm+1, most, d.Int())
	}
	m := api.Letter{Kind: d.Intn(9) - 1, From: n(), To: n(), Term: n(), Index: n(), At: n(), Commit: n(), Members: n(), Off: n(), Size: n(), Yes: d.Intn(2) == 0}
	if d.Intn(2) == 0 {
		m.Data = text(pick(d, 1, 600, 601, 5000))
	}
	for range d.Intn(12) {
		m.Entries = append(m.Entries, api.Entry{Term: n(), Members: n(), Data: text(pick(d, 0, 1, 2000))})
	}
	if d.Intn(2) == 0 {
		// one that is right but for a field or two
		m = pick(d, each(1+d.Intn(9))...)
		m.From, m.To = d.Intn(topNode+2)-1, d.Intn(2)
		*pick(d, &m.Index, &m.At, &m.Commit, &m.Members, &m.Off, &m.Size, &m.Term, &m.Kind) = n()
	}
	return m
}

// TestWhateverACoreIsTold, lies too, these things stay.
func TestWhateverACoreIsTold(t *testing.T) {
	draw := rand.New(rand.NewSource(2202))
	for range 300 {
		d := drawer{Rand: draw}
		h := d.hard()
		d.x = begin(t, draw.Intn(topNode+1), h, draw.Intn(20))
		sure := map[int]api.Entry{}
		v := d.x.c.View()
		for range 200 {
			switch draw.Intn(6) {
			case 0:
				d.x.take(wildLetter(draw))
			case 1:
				n := pick(draw, least, -1, 0, 1, 3, 130, most, draw.Int())
				d.x.c.Change(n)
				d.x.m.change(n)
				d.x.compact(n, text(pick(draw, 0, 1, longImage, longImage+1)))
				d.x.propose(text(pick(draw, 0, longEntry, longEntry+1)))
			default:
				d.step()
			}
			d.x.out()
			was, before := h, v
			h, v = d.x.c.Hard(), d.x.c.View()
			stays(d.x, was, h, before, v, sure)
		}
	}
}

// stays holds what a core has against what it had; sure are the entries that it ever took for sure.
func stays(x *core, was, h api.Hard, before, v raft.View, sure map[int]api.Entry) {
	switch {
	case !wal.Right(h):
		x.fail("not right: %s", brief(h))
	case h.Term < was.Term:
		x.fail("the Term falls from %d to %d", was.Term, h.Term)
	case h.Term == was.Term && was.Vote != -1 && h.Vote != was.Vote:
		x.fail("the Vote goes from %d to %d", was.Vote, h.Vote)
	case v.Commit < before.Commit, v.Commit > v.Last, v.Commit < h.Base:
		x.fail("Commit goes from %d to %d, with the Base %d, the last %d", before.Commit, v.Commit, h.Base, v.Last)
	}
	if e, is := sure[h.Base]; is && e.Term != h.BaseTerm {
		x.fail("the entry %d was of the Term %d, not %d", h.Base, e.Term, h.BaseTerm)
	}
	for n := h.Base + 1; n <= v.Commit; n++ {
		e := h.Log[n-h.Base-1]
		if s, is := sure[n]; is && s != e {
			x.fail("the entry %d is %v, not %v", n, e, s)
		}
		sure[n] = e
	}
}

// TestVotesOutlastACore that is made anew: it gives none to another in that Term.
func TestVotesOutlastACore(t *testing.T) {
	x := begin(t, 0, fresh(), 0)
	x.take(ask(1, 0, 3, 0, 0))
	x = begin(t, 0, x.c.Hard(), 0)
	x.take(ask(2, 0, 3, 9, 3))
	x.says(vote(0, 2, 3, false))
	x.take(ask(1, 0, 3, 0, 0))
	x.says(vote(0, 1, 3, true))
	x = leading(t, fresh(), 1)
	x = begin(t, 0, x.c.Hard(), 0)
	x.take(ask(2, 0, 1, 9, 1), vote(2, 0, 1, true))
	x.says(vote(0, 2, 1, false))
	x.is(follows, -1, 0, 1, 10, 7)
}
