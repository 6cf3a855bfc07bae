package raft

import (
	"impost/api"
	"impost/conf"
)

// lead makes a leader of the core.
func (c *Core) lead() {
	c.role, c.leads, c.left = Leader, c.id, Beat
	for f := range c.peers {
		c.peers[f] = peer{next: c.last() + 1}
	}
	// entries of elder Terms become sure with one of its own alone
	if c.last() < api.MaxIndex && len(c.hard.Log) < api.MaxLog {
		c.add(api.Entry{})
	}
	c.spread()
}

// add puts e, as an entry of the core's Term, behind its own.
func (c *Core) add(e api.Entry) {
	e.Term = c.hard.Term
	c.hard.Log = append(c.hard.Log, e)
}

// spread does what follows when entries were added: alone, the leader has made them sure; else the others are to have them.
func (c *Core) spread() {
	c.peers[c.id].match = c.last()
	c.reckon()
	if c.role == Leader {
		c.sendAll()
	}
}

// reckon looks what is sure, and steps down if by that the core doesn't belong.
func (c *Core) reckon() {
	m := c.members()
	// terms never fall in a log: below an entry of an elder Term none has the core's
	for n := c.last(); n > c.commit && c.term(n) == c.hard.Term; n-- {
		if conf.Most(m, c.having(n)) {
			c.commit = n
		}
	}
	if c.gone() {
		c.role, c.leads, c.left = Follower, nobody, c.drawn
	}
}

// having is the set of the nodes that are known to have the entries up to n.
func (c *Core) having(n int) int {
	set := 0
	for f, p := range c.peers {
		if p.match >= n {
			set |= 1 << f
		}
	}
	return set
}

// sendAll sends to the others.
func (c *Core) sendAll() {
	for _, f := range c.others() {
		c.send(f)
	}
}

// send sends f the entries that it is to have next, or a piece of the snapshot, if that has the first of them.
func (c *Core) send(f int) {
	p, h := c.peers[f], c.hard
	if p.next <= h.Base {
		c.write(f, api.Letter{
			Kind: api.MInstall, Index: h.Base, At: h.BaseTerm, Members: h.Members,
			Off: p.off, Size: len(h.Snap), Data: h.Snap[p.off:min(p.off+api.MaxPiece, len(h.Snap))],
		})
		return
	}
	l := h.Log[p.next-1-h.Base:]
	c.write(f, api.Letter{
		Kind: api.MAppend, Index: p.next - 1, At: c.term(p.next - 1),
		Entries: copied(l[:min(api.MaxBatch, len(l))]), Commit: c.commit,
	})
}

// Propose asks for an entry of each data, and answers the number of the first.
func (c *Core) Propose(data ...string) (int, bool) {
	if c.role != Leader || !c.takes(data) {
		return 0, false
	}
	first := c.last() + 1
	for _, d := range data {
		c.add(api.Entry{Data: d})
	}
	c.spread()
	return first, true
}

// takes tells whether a leader has room for entries of all data.
func (c *Core) takes(data []string) bool {
	if len(data) == 0 || len(c.hard.Log)+len(data) > Long || c.last()+len(data) > api.MaxIndex {
		return false
	}
	for _, d := range data {
		if len(d) > api.MaxEntry {
			return false
		}
	}
	return true
}

// Change asks for other members, and answers the number of the entry that says so.
func (c *Core) Change(members int) (int, bool) {
	was, n := conf.Of(c.hard)
	switch {
	case c.role != Leader, !conf.May(was, members):
		return 0, false
	// one change at a time, and none by a leader that knows not yet which of those ahead of it became sure
	case n > c.commit, c.term(c.commit) != c.hard.Term:
		return 0, false
	case len(c.hard.Log) >= Long, c.last() >= api.MaxIndex:
		return 0, false
	}
	c.add(api.Entry{Members: members})
	for _, f := range conf.List(members &^ was &^ (1 << c.id)) {
		c.peers[f] = peer{next: c.last()}
	}
	c.spread()
	return c.last(), true
}

// Compact puts snap in the place of the entries up to index.
func (c *Core) Compact(index int, snap string) api.Errno {
	h := c.hard
	if index <= h.Base || index > c.commit || snap == "" || len(snap) > api.MaxImage {
		return api.ErrArg
	}
	up := h
	up.Log = h.Log[:index-h.Base]
	members, _ := conf.Of(up)
	c.standOn(piece{index: index, at: c.term(index)}, members, snap, copied(h.Log[index-h.Base:]))
	for f := range c.peers {
		c.peers[f].off = 0
	}
	return api.OK
}
