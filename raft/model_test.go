package raft_test

import (
	"math"
	"slices"
	"strings"

	"impost/api"
	"impost/letter"
	"impost/wal"
)

// The limits, written out so that one that slips is seen.
const (
	least     = math.MinInt
	most      = math.MaxInt
	topNode   = 6
	topTerm   = 1099511627776
	topIndex  = 1099511627776
	allNodes  = 127
	longBatch = 8
	longEntry = 1100
	longLog   = 200
	longPiece = 600
	longImage = 65536
	longAsked = 120
	waits     = 10
	beats     = 3
)

// The roles, by their numbers.
const (
	follows = 1
	stands  = 2
	leads   = 3
)

// The kinds of letters, by theirs.
const (
	isAsk     = 1
	isVote    = 2
	isAppend  = 3
	isAck     = 4
	isInstall = 5
	isMore    = 6
)

func en(term int, data string) api.Entry { return api.Entry{Term: term, Data: data} }
func of(term, members int) api.Entry     { return api.Entry{Term: term, Members: members} }

func text(n int) string { return strings.Repeat("d", n) }

// run is n entries of one term.
func run(n, term int) []api.Entry {
	return slices.Repeat([]api.Entry{en(term, "")}, n)
}

// One letter of each kind, with all that is named beside it.
func ask(from, to, term, index, at int) api.Letter {
	return api.Letter{Kind: isAsk, From: from, To: to, Term: term, Index: index, At: at}
}
func vote(from, to, term int, yes bool) api.Letter {
	return api.Letter{Kind: isVote, From: from, To: to, Term: term, Yes: yes}
}
func appends(from, to, term, index, at, commit int, l ...api.Entry) api.Letter {
	return api.Letter{Kind: isAppend, From: from, To: to, Term: term, Index: index, At: at, Commit: commit, Entries: l}
}
func ack(from, to, term int, yes bool, index int) api.Letter {
	return api.Letter{Kind: isAck, From: from, To: to, Term: term, Yes: yes, Index: index}
}
func install(from, to, term, index, at, members, off, size int, data string) api.Letter {
	return api.Letter{Kind: isInstall, From: from, To: to, Term: term, Index: index, At: at, Members: members, Off: off, Size: size, Data: data}
}
func more(from, to, term, index, off int) api.Letter {
	return api.Letter{Kind: isMore, From: from, To: to, Term: term, Index: index, Off: off}
}

// model is a core as the chapter tells it, told step by step: entries go by their numbers, sets of nodes are lists, and what can be looked up anew is not kept.
type model struct {
	id, term, vote                   int
	base, baseTerm, had              int // had: the Members of the Hard
	snap                             string
	log                              map[int]api.Entry
	role, leads, commit, drawn, left int
	votes                            []int
	next, match, off                 map[int]int
	coming                           *comes
	out                              []api.Letter
}

// comes is a snapshot under way.
type comes struct {
	index, at, size int
	so              string
}

// waitOf is the wait of a draw, found by going on from a multiple.
func waitOf(draw int) int {
	n := draw % 11
	for n < 0 {
		n += 11
	}
	return 10 + n
}

func newModel(id int, h api.Hard, draw int) *model {
	if id < 0 || id > topNode || !wal.Right(h) {
		return nil
	}
	m := &model{id: id, term: h.Term, vote: h.Vote, base: h.Base, baseTerm: h.BaseTerm, had: h.Members, snap: h.Snap, log: map[int]api.Entry{}}
	for k, e := range h.Log {
		m.log[h.Base+1+k] = e
	}
	m.role, m.leads, m.commit = follows, -1, h.Base
	m.drawn, m.left = waitOf(draw), waitOf(draw)
	return m
}

func (m *model) last() int { return m.base + len(m.log) }

func (m *model) termOf(n int) int {
	if e, is := m.log[n]; is {
		return e.Term
	}
	if n == m.base {
		return m.baseTerm
	}
	panic("no term is asked of a number that there isn't")
}

// listed is the nodes of a set.
func listed(set int) []int {
	var l []int
	for id := 0; set > 0; id, set = id+1, set/2 {
		if set%2 == 1 {
			l = append(l, id)
		}
	}
	return l
}

// saying is who belongs by the entries up to n, and which one says so.
func (m *model) saying(n int) (set, by int) {
	set, by = m.had, m.base
	for k := m.base + 1; k <= n; k++ {
		if m.log[k].Members != 0 {
			set, by = m.log[k].Members, k
		}
	}
	return set, by
}

func (m *model) members() []int {
	set, _ := m.saying(m.last())
	return listed(set)
}

func (m *model) belongs() bool { return slices.Contains(m.members(), m.id) }

func (m *model) others() []int {
	return slices.DeleteFunc(m.members(), func(f int) bool { return f == m.id })
}

// enough tells whether more than half of those that belong are in l.
func (m *model) enough(l []int) bool {
	in, out := 0, 0
	for _, f := range m.members() {
		if slices.Contains(l, f) {
			in++
		} else {
			out++
		}
	}
	return in > out
}

func (m *model) writes(l api.Letter) {
	l.From, l.Term = m.id, m.term
	m.out = append(m.out, l)
}

func (m *model) tick(draw int) {
	m.left--
	if m.left > 0 {
		return
	}
	if m.role == leads {
		m.left = beats
		m.sendsAll()
		return
	}
	m.drawn, m.left = waitOf(draw), waitOf(draw)
	_, by := m.saying(m.last())
	if m.term == topTerm || !m.belongs() && by <= m.commit {
		return
	}
	m.term++
	m.vote, m.role, m.leads, m.votes = m.id, stands, -1, []int{m.id}
	if m.enough(m.votes) {
		m.takesOver()
		return
	}
	for _, f := range m.others() {
		m.writes(api.Letter{Kind: isAsk, To: f, Index: m.last(), At: m.termOf(m.last())})
	}
}

func (m *model) takesOver() {
	m.role, m.leads, m.left = leads, m.id, beats
	m.next, m.match, m.off = map[int]int{}, map[int]int{}, map[int]int{}
	for f := 0; f <= topNode; f++ {
		m.next[f] = m.last() + 1
	}
	if m.last() < topIndex && len(m.log) < longLog {
		m.log[m.last()+1] = api.Entry{Term: m.term}
	}
	m.goesOn()
}

func (m *model) goesOn() {
	m.match[m.id] = m.last()
	m.looks()
	if m.role == leads {
		m.sendsAll()
	}
}

func (m *model) sendsAll() {
	for _, f := range m.others() {
		m.sends(f)
	}
}

func (m *model) sends(f int) {
	next := m.next[f]
	if next <= m.base {
		data := ""
		for k := m.off[f]; k < len(m.snap) && len(data) < longPiece; k++ {
			data += m.snap[k : k+1]
		}
		m.writes(install(0, f, 0, m.base, m.baseTerm, m.had, m.off[f], len(m.snap), data))
		return
	}
	var l []api.Entry
	for n := next; n <= m.last() && n < next+longBatch; n++ {
		l = append(l, m.log[n])
	}
	m.writes(appends(0, f, 0, next-1, m.termOf(next-1), m.commit, l...))
}

// looks asks each number by itself whether it is sure.
func (m *model) looks() {
	commit := m.commit
	for n := m.commit + 1; n <= m.last(); n++ {
		var have []int
		for f := 0; f <= topNode; f++ {
			if m.match[f] >= n {
				have = append(have, f)
			}
		}
		if m.log[n].Term == m.term && m.enough(have) {
			commit = n
		}
	}
	m.commit = commit
	if _, by := m.saying(m.last()); !m.belongs() && by <= m.commit {
		m.role, m.leads, m.left = follows, -1, m.drawn
	}
}

func (m *model) take(l api.Letter) {
	if !letter.Right(l) || l.To != m.id {
		return
	}
	if l.Kind == isAsk && (m.role == leads || m.leads != -1 && m.drawn-m.left < waits) {
		return
	}
	if l.Term > m.term {
		m.term, m.vote, m.role, m.leads = l.Term, -1, follows, -1
	}
	if l.Term < m.term {
		if l.Kind == isAsk {
			m.writes(vote(0, l.From, 0, false))
		}
		if l.Kind == isAppend || l.Kind == isInstall {
			m.writes(ack(0, l.From, 0, false, m.last()))
		}
		return
	}
	[]func(api.Letter){isAsk: m.asked, isVote: m.voted, isAppend: m.appended, isAck: m.acked, isInstall: m.installed, isMore: m.wanted}[l.Kind](l)
}

func (m *model) asked(l api.Letter) {
	yes := m.vote == -1 || m.vote == l.From
	if l.At < m.termOf(m.last()) || l.At == m.termOf(m.last()) && l.Index < m.last() {
		yes = false
	}
	if yes {
		m.vote, m.left = l.From, m.drawn
	}
	m.writes(vote(0, l.From, 0, yes))
}

func (m *model) voted(l api.Letter) {
	if m.role == stands && l.Yes {
		m.votes = append(m.votes, l.From)
		if m.enough(m.votes) {
			m.takesOver()
		}
	}
}

func (m *model) hears(f int) { m.role, m.leads, m.left = follows, f, m.drawn }

func (m *model) appended(l api.Letter) {
	if m.role == leads {
		return
	}
	for k, e := range l.Entries {
		n := l.Index + k + 1
		if n >= m.base && n <= m.commit && m.termOf(n) != e.Term {
			return
		}
	}
	m.hears(l.From)
	if l.Index > m.last() {
		m.writes(ack(0, l.From, 0, false, m.last()))
		return
	}
	if l.Index >= m.base && m.termOf(l.Index) != l.At {
		m.writes(ack(0, l.From, 0, false, l.Index-1))
		return
	}
	to := l.Index
	for _, e := range l.Entries {
		n := to + 1
		if own, is := m.log[n]; n > m.base && (!is || own.Term != e.Term) {
			if n > m.base+longLog {
				break
			}
			m.cutFrom(n)
			m.log[n] = e
		}
		to = n
	}
	if sure := min(l.Commit, to); sure > m.commit {
		m.commit = sure
	}
	m.writes(ack(0, l.From, 0, true, to))
}

func (m *model) cutFrom(n int) {
	for k := range m.log {
		if k >= n {
			delete(m.log, k)
		}
	}
}

func (m *model) cutTo(n int) {
	for k := range m.log {
		if k <= n {
			delete(m.log, k)
		}
	}
}

func (m *model) acked(l api.Letter) {
	if m.role != leads || l.Index > m.last() {
		return
	}
	f := l.From
	if l.Yes {
		if l.Index > m.match[f] {
			m.match[f], m.next[f], m.off[f] = l.Index, l.Index+1, 0
			m.looks()
			if m.role == leads && m.next[f] <= m.last() {
				m.sends(f)
			}
		}
		return
	}
	m.next[f]--
	if l.Index+1 < m.next[f] {
		m.next[f] = l.Index + 1
	}
	if m.next[f] < m.match[f]+1 {
		m.next[f] = m.match[f] + 1
	}
	m.sends(f)
}

func (m *model) installed(l api.Letter) {
	if m.role == leads {
		return
	}
	m.hears(l.From)
	if l.Index <= m.commit {
		m.writes(ack(0, l.From, 0, true, l.Index))
		return
	}
	if l.Off == 0 {
		m.coming = &comes{index: l.Index, at: l.At, size: l.Size}
	}
	w := m.coming
	if w == nil || w.index != l.Index || w.at != l.At || w.size != l.Size {
		m.writes(more(0, l.From, 0, l.Index, 0))
		return
	}
	if l.Off == len(w.so) {
		w.so += l.Data
	}
	if len(w.so) < w.size {
		m.writes(more(0, l.From, 0, l.Index, len(w.so)))
		return
	}
	if own, is := m.log[l.Index]; is && own.Term == l.At {
		m.cutTo(l.Index)
	} else {
		clear(m.log)
	}
	m.base, m.baseTerm, m.had, m.snap, m.commit, m.coming = l.Index, l.At, l.Members, w.so, l.Index, nil
	m.writes(ack(0, l.From, 0, true, l.Index))
}

func (m *model) wanted(l api.Letter) {
	f := l.From
	if m.role == leads && l.Index == m.base && m.next[f] <= m.base && l.Off < len(m.snap) && l.Off != m.off[f] {
		m.off[f] = l.Off
		m.sends(f)
	}
}

func (m *model) propose(data ...string) (int, bool) {
	n := m.last() + 1
	if m.role != leads || len(data) == 0 || len(m.log)+len(data) > longAsked || m.last()+len(data) > topIndex {
		return 0, false
	}
	for _, d := range data {
		if len(d) > longEntry {
			return 0, false
		}
	}
	for k, d := range data {
		m.log[n+k] = en(m.term, d)
	}
	m.goesOn()
	return n, true
}

func (m *model) change(members int) (int, bool) {
	set, by := m.saying(m.last())
	was := listed(set)
	if m.role != leads || members < 1 || members > allNodes {
		return 0, false
	}
	now := listed(members)
	come := slices.DeleteFunc(slices.Clone(now), func(f int) bool { return slices.Contains(was, f) })
	gone := slices.DeleteFunc(slices.Clone(was), func(f int) bool { return slices.Contains(now, f) })
	if len(come)+len(gone) != 1 || by > m.commit || m.termOf(m.commit) != m.term || len(m.log) >= longAsked || m.last() >= topIndex {
		return 0, false
	}
	n := m.last() + 1
	m.log[n] = of(m.term, members)
	for _, f := range come {
		if f != m.id {
			m.next[f], m.match[f], m.off[f] = n, 0, 0
		}
	}
	m.goesOn()
	return n, true
}

func (m *model) compact(index int, snap string) api.Errno {
	if index <= m.base || index > m.commit || len(snap) == 0 || len(snap) > longImage {
		return api.ErrArg
	}
	m.had, _ = m.saying(index)
	m.baseTerm, m.snap = m.termOf(index), snap
	m.cutTo(index)
	m.base = index
	m.off = map[int]int{}
	return api.OK
}

func (m *model) hard() api.Hard {
	h := api.Hard{Term: m.term, Vote: m.vote, Base: m.base, BaseTerm: m.baseTerm, Members: m.had, Snap: m.snap}
	for n := m.base + 1; n <= m.last(); n++ {
		h.Log = append(h.Log, m.log[n])
	}
	return h
}
