package raft_test

import (
	"math/rand"
	"testing"

	"impost/api"
	"impost/raft"
)

// P22.1 to P22.10, by what is drawn.

// drawer draws steps for a core, most of them near to what it has.
type drawer struct {
	*rand.Rand
	x *core
}

// pick is one of l.
func pick[T any](d *rand.Rand, l ...T) T { return l[d.Intn(len(l))] }

// number is one around those that the core has something at.
func (d drawer) number(lo int) int {
	m := d.x.m
	n := pick(d.Rand, 0, 1, m.base-1, m.base, m.base+1, m.commit-1, m.commit, m.commit+1, m.last()-2, m.last()-1, m.last(), m.last(), m.last(), m.last()+1, m.last()+2, m.base+d.Intn(len(m.log)+1))
	if d.Intn(100) == 0 {
		n = topIndex
	}
	return min(max(n, lo), topIndex)
}

func (d drawer) term() int {
	t := d.x.m.term + pick(d.Rand, -1, 0, 0, 0, 0, 0, 0, 0, 0, 0, 1)
	if d.x.m.role == leads && d.Intn(2) == 0 {
		t = d.x.m.term
	}
	if d.Intn(200) == 0 {
		t = d.x.m.term + 5
	}
	return min(max(t, 1), topTerm)
}

// at is a term for the number n: mostly its own.
func (d drawer) at(n, term int) int {
	m := d.x.m
	if n == 0 {
		return 0
	}
	if _, is := m.log[n]; (is || n == m.base) && d.Intn(5) > 0 {
		return min(m.termOf(n), term)
	}
	return 1 + d.Intn(min(term, 6))
}

// entries are some behind the number n, mostly those that the core has.
func (d drawer) entries(n, at, term int) []api.Entry {
	var l []api.Entry
	for k := range min(d.Intn(longBatch+1), topIndex-n) {
		e, is := d.x.m.log[n+1+k]
		if !is || d.Intn(12) == 0 {
			e = en(pick(d.Rand, at, term, term), pick(d.Rand, "", "a", "b"))
			if d.Intn(6) == 0 {
				e = of(e.Term, 1+d.Intn(allNodes))
			}
		}
		e.Term = min(max(e.Term, at, 1), term)
		at = e.Term
		l = append(l, e)
	}
	return l
}

func (d drawer) piece(from, term int) api.Letter {
	m := d.x.m
	index := d.number(1)
	if d.Intn(2) == 0 {
		index = min(m.commit+1+d.Intn(3), topIndex)
	}
	l := install(from, m.id, term, index, max(1, d.at(index, term)), 1+d.Intn(allNodes), 0, pick(d.Rand, 1, 2, 3, 5, 700), "")
	if w := m.coming; w != nil && d.Intn(5) > 0 {
		l.Index, l.At, l.Size = w.index, min(w.at, term), w.size
		l.Off = min(pick(d.Rand, len(w.so), len(w.so), len(w.so), 0, len(w.so)+1, len(w.so)-1), w.size-1)
	}
	l.Off = max(l.Off, 0)
	l.Data = snapshot(l.Size)[l.Off:min(l.Size, l.Off+1+d.Intn(longPiece))]
	return l
}

// letter is one to the core.
func (d drawer) letter() api.Letter {
	m := d.x.m
	from := (m.id + 1 + d.Intn(topNode)) % (topNode + 1)
	term := d.term()
	index := d.number(0)
	at := d.at(index, term)
	switch kind := 1 + d.Intn(6); {
	case m.role == stands && d.Intn(3) > 0:
		return vote(from, m.id, m.term, true)
	case kind == isVote:
		return vote(from, m.id, term, d.Intn(4) > 0)
	case m.role == leads && d.Intn(3) > 0:
		return ack(from, m.id, m.term, d.Intn(4) > 0, pick(d.Rand, m.last(), m.last(), m.last()-1, index))
	case kind == isAck:
		return ack(from, m.id, term, d.Intn(3) > 0, index)
	case kind == isAsk:
		return ask(from, m.id, term, index, at)
	case kind == isAppend:
		return appends(from, m.id, term, index, at, d.number(0), d.entries(index, at, term)...)
	case kind == isInstall:
		return d.piece(from, term)
	default:
		return more(from, m.id, term, max(1, pick(d.Rand, m.base, m.base, m.base, index)), pick(d.Rand, 0, 1, 2, 3, 600, d.Intn(len(m.snap)+2)))
	}
}

// hard is one to begin with.
func (d drawer) hard() api.Hard {
	h := api.Hard{Vote: d.Intn(topNode+2) - 1, Members: pick(d.Rand, 1, 3, 7, 7, 7, 31, allNodes, 1+d.Intn(allNodes))}
	term := 0
	if d.Intn(2) == 0 {
		term = 1
		h.Base, h.BaseTerm, h.Snap = pick(d.Rand, 1, 5, 900, topIndex-longLog, topIndex-130, topIndex-6, topIndex), 1, snapshot(pick(d.Rand, 1, 3, 700, 1900))
	}
	n := pick(d.Rand, 0, 0, 1, 3, 9, 20, longAsked-4, longAsked-2, longAsked, longLog-9, longLog-1, longLog)
	for range min(n, topIndex-h.Base) {
		term = max(term, 1)
		if d.Intn(6) == 0 {
			term++
		}
		e := en(term, pick(d.Rand, "", "a", "b"))
		if d.Intn(30) == 0 {
			e = of(term, 1+d.Intn(allNodes))
		}
		h.Log = append(h.Log, e)
	}
	h.Term = term + d.Intn(3)
	if d.Intn(20) == 0 {
		h.Term = topTerm - d.Intn(3)
	}
	return h
}

// step does one thing to the core.
func (d drawer) step() {
	x, m := d.x, d.x.m
	switch n := d.Intn(20); {
	case n < 4:
		for range 1 + d.Intn(4) {
			x.tick(d.Intn(40) - 20)
		}
	case n == 4:
		for range pick(d.Rand, 1, 9, 10, 11, 20) {
			x.tick(d.Intn(3))
		}
	case n == 5:
		x.propose(make([]string, pick(d.Rand, 0, 1, 1, 2, 9, max(0, longAsked-len(m.log)), max(0, longAsked-len(m.log)+1), 200))...)
	case n == 6:
		set, _ := m.saying(m.last())
		x.change(pick(d.Rand, set^1<<m.id, set^1<<d.Intn(topNode+1), set^1<<d.Intn(topNode+1), set, d.Intn(300)))
	case n == 7:
		x.compact(d.number(0), pick(d.Rand, "s", snapshot(700), snapshot(1900), ""))
	default:
		x.take(d.letter())
	}
}

// TestDrawnSteps holds cores against the model, and sees to it that all that can happen did.
func TestDrawnSteps(t *testing.T) {
	draw := rand.New(rand.NewSource(2201))
	met := map[string]int{}
	for range 700 {
		d := drawer{Rand: draw}
		h := d.hard()
		id := draw.Intn(topNode + 1)
		d.x = begin(t, id, h, draw.Int()-draw.Int())
		for range 250 {
			was, v := d.x.c.Hard(), d.x.c.View()
			d.step()
			note(met, was, v, d.x)
			d.x.out()
		}
	}
	for _, what := range []string{"stands", "leads", "steps down", "is sure", "is cut", "stands on a snapshot", "compacts", "behind a snapshot", "asks for a vote", "votes", "doesn't vote", "sends entries", "sends none", "says yes", "says no", "sends a piece", "asks for a piece"} {
		if met[what] < 20 {
			t.Errorf("%s: %d", what, met[what])
		}
	}
}

// note counts what happened in a step, ahead of which the core had h and was v.
func note(met map[string]int, h api.Hard, v raft.View, x *core) {
	g, w := x.c.Hard(), x.c.View()
	happened := func(what string, is bool) {
		if is {
			met[what]++
		}
	}
	happened("stands", w.Role == stands && g.Term > h.Term)
	happened("leads", w.Role == leads && v.Role != leads)
	happened("steps down", v.Role == leads && w.Role == follows && g.Term == h.Term)
	happened("is sure", w.Role == leads && v.Role == leads && w.Commit > v.Commit)
	happened("is cut", g.Base == h.Base && len(g.Log) > 0 && len(h.Log) >= len(g.Log) && g.Log[len(g.Log)-1] != h.Log[len(g.Log)-1])
	happened("compacts", g.Base > h.Base && g.Base <= v.Commit)
	happened("stands on a snapshot", g.Base > v.Commit)
	happened("behind a snapshot", g.Base > v.Commit && len(g.Log) > 0)
	for _, m := range x.sent {
		switch m.Kind {
		case isAsk:
			happened("asks for a vote", true)
		case isVote:
			happened(map[bool]string{true: "votes", false: "doesn't vote"}[m.Yes], true)
		case isAppend:
			happened(map[bool]string{true: "sends entries", false: "sends none"}[len(m.Entries) > 0], true)
		case isAck:
			happened(map[bool]string{true: "says yes", false: "says no"}[m.Yes], true)
		case isInstall:
			happened("sends a piece", true)
		case isMore:
			happened("asks for a piece", true)
		}
	}
}
