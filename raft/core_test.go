package raft_test

import (
	"fmt"
	"slices"
	"testing"

	"impost/api"
	"impost/raft"
)

// core is a raft.Core beside a model of it: what is done is done to both, and behind each step both are the same.
type core struct {
	t    *testing.T
	c    *raft.Core
	m    *model
	sent []api.Letter
	done []step // the latest ones, to be told where the two differ
}

// step is what was done to a core.
type step struct {
	call string
	with []any
}

// begin makes a core whose wait is the draw's.
func begin(t *testing.T, id int, h api.Hard, draw int) *core {
	t.Helper()
	c, e := raft.New(id, h, draw)
	m := newModel(id, h, draw)
	if c == nil || e != api.OK || m == nil {
		t.Fatalf("New(%d, %s, %d): %v, %d", id, brief(h), draw, c, e)
	}
	x := &core{t: t, c: c, m: m}
	x.held("New", id, h, draw)
	return x
}

// fresh is what a node of the group 0, 1, 2 begins with, or of another group's.
func fresh(members ...int) api.Hard {
	h := api.Hard{Vote: -1, Members: 7}
	for _, m := range members {
		h.Members = m
	}
	return h
}

// logged is a Hard of a Term with entries and no snapshot.
func logged(term int, l ...api.Entry) api.Hard {
	return api.Hard{Term: term, Vote: -1, Members: 7, Log: l}
}

// based is one with a snapshot.
func based(term, base, baseTerm int, snap string, l ...api.Entry) api.Hard {
	return api.Hard{Term: term, Vote: -1, Base: base, BaseTerm: baseTerm, Members: 7, Snap: snap, Log: l}
}

// sameHard tells whether both are one; no entries are no entries, nil or not.
func sameHard(a, b api.Hard) bool {
	if !slices.Equal(a.Log, b.Log) {
		return false
	}
	return a.Term == b.Term && a.Vote == b.Vote && a.Base == b.Base && a.BaseTerm == b.BaseTerm && a.Members == b.Members && a.Snap == b.Snap
}

func sameLetter(a, b api.Letter) bool {
	if !slices.Equal(a.Entries, b.Entries) {
		return false
	}
	return a.Kind == b.Kind && a.From == b.From && a.To == b.To && a.Term == b.Term && a.Index == b.Index && a.At == b.At && a.Commit == b.Commit &&
		a.Members == b.Members && a.Off == b.Off && a.Size == b.Size && a.Yes == b.Yes && a.Data == b.Data
}

// brief tells a thing without its long texts.
func brief(v any) string {
	s := []rune(fmt.Sprintf("%+v", v))
	if len(s) > 400 {
		return string(s[:250]) + " .. " + string(s[len(s)-100:])
	}
	return string(s)
}

// did notes a step.
func (x *core) did(call string, with []any) {
	x.done = append(x.done, step{call, with})
	if len(x.done) > 12 {
		x.done = x.done[1:]
	}
}

// fail ends the test, with the steps that led there.
func (x *core) fail(format string, more ...any) {
	x.t.Helper()
	for _, s := range x.done {
		x.t.Log(s.call, brief(s.with))
	}
	x.t.Fatalf("core %d: "+format, append([]any{x.m.id}, more...)...)
}

// held holds the core against its model, and takes what both sent.
func (x *core) held(call string, with ...any) {
	x.t.Helper()
	x.did(call, with)
	got, want := x.c.Out(), x.m.out
	x.m.out = nil
	if !slices.EqualFunc(got, want, sameLetter) {
		x.fail("sent %s, not %s", brief(got), brief(want))
	}
	if h := x.c.Hard(); !sameHard(h, x.m.hard()) {
		x.fail("has %s, not %s", brief(h), brief(x.m.hard()))
	}
	if v := x.c.View(); v != x.m.view() {
		x.fail("is %+v, not %+v", v, x.m.view())
	}
	x.sent = append(x.sent, got...)
}

func (m *model) view() raft.View {
	set, _ := m.saying(m.last())
	return raft.View{Role: m.role, Leads: m.leads, Commit: m.commit, Last: m.last(), Left: m.left, Members: set}
}

// tick tells of a tick for each of the draws.
func (x *core) tick(draws ...int) {
	x.t.Helper()
	for _, d := range draws {
		x.c.Tick(d)
		x.m.tick(d)
		x.held("Tick", d)
	}
}

// ticks tells of n ticks with one draw.
func (x *core) ticks(n, draw int) {
	x.t.Helper()
	for range n {
		x.tick(draw)
	}
}

func (x *core) take(l ...api.Letter) {
	x.t.Helper()
	for _, m := range l {
		x.c.Take(m)
		x.m.take(m)
		x.held("Take", m)
	}
}

func (x *core) propose(data ...string) (int, bool) {
	x.t.Helper()
	n, ok := x.c.Propose(data...)
	if k, is := x.m.propose(data...); n != k || ok != is {
		x.fail("Propose(%s) is %d, %v, not %d, %v", brief(data), n, ok, k, is)
	}
	x.held("Propose", data, n, ok)
	return n, ok
}

func (x *core) change(members int) (int, bool) {
	x.t.Helper()
	n, ok := x.c.Change(members)
	if k, is := x.m.change(members); n != k || ok != is {
		x.fail("Change(%d) is %d, %v, not %d, %v", members, n, ok, k, is)
	}
	x.held("Change", members, n, ok)
	return n, ok
}

func (x *core) compact(index int, snap string) api.Errno {
	x.t.Helper()
	e := x.c.Compact(index, snap)
	if f := x.m.compact(index, snap); e != f {
		x.fail("Compact(%d, %s) is %d, not %d", index, brief(snap), e, f)
	}
	x.held("Compact", index, snap, e)
	return e
}

// out is what the core sent since the last time.
func (x *core) out() []api.Letter {
	l := x.sent
	x.sent = nil
	return l
}

// says asks that the core sent just these letters since the last time.
func (x *core) says(want ...api.Letter) {
	x.t.Helper()
	if l := x.out(); !slices.EqualFunc(l, want, sameLetter) {
		x.fail("sent %s, must be %s", brief(l), brief(want))
	}
}

// is asks for all of the core's View.
func (x *core) is(role, leads, commit, last, left, members int) {
	x.t.Helper()
	want := raft.View{Role: role, Leads: leads, Commit: commit, Last: last, Left: left, Members: members}
	if v := x.c.View(); v != want {
		x.fail("is %+v, must be %+v", v, want)
	}
}

// voted asks for its Term and its Vote.
func (x *core) voted(term, vote int) {
	x.t.Helper()
	if h := x.c.Hard(); h.Term != term || h.Vote != vote {
		x.fail("has the Term %d, the Vote %d, must be %d, %d", h.Term, h.Vote, term, vote)
	}
}

// logs asks for its entries.
func (x *core) logs(l ...api.Entry) {
	x.t.Helper()
	if h := x.c.Hard(); !slices.Equal(h.Log, l) {
		x.fail("has %s, must be %s", brief(h.Log), brief(l))
	}
}

// has asks for its Hard.
func (x *core) has(want api.Hard) {
	x.t.Helper()
	if h := x.c.Hard(); !sameHard(h, want) {
		x.fail("has %s, must be %s", brief(h), brief(want))
	}
}

// standing is the core 0, which stands in the Term behind h's.
func standing(t *testing.T, h api.Hard) *core {
	t.Helper()
	x := begin(t, 0, h, 0)
	x.ticks(waits, 0)
	x.out()
	return x
}

// leading is the core 0, which leads in the Term behind h's by the votes of the nodes in by.
func leading(t *testing.T, h api.Hard, by ...int) *core {
	t.Helper()
	x := standing(t, h)
	for _, f := range by {
		x.take(vote(f, 0, h.Term+1, true))
	}
	if v := x.c.View(); v.Role != leads || v.Leads != 0 {
		x.fail("doesn't lead: %+v", v)
	}
	return x
}
