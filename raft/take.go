package raft

import (
	"impost/api"
	"impost/letter"
)

// Take takes a letter to the core.
func (c *Core) Take(m api.Letter) {
	if !letter.Right(m) || m.To != c.id || m.Kind == api.MAsk && c.led() {
		return
	}
	if m.Term > c.hard.Term {
		c.hard.Term, c.hard.Vote = m.Term, nobody
		c.role, c.leads = Follower, nobody
	}
	if m.Term < c.hard.Term {
		c.refuse(m)
		return
	}
	switch m.Kind {
	case api.MAsk:
		c.takeAsk(m)
	case api.MVote:
		c.takeVote(m)
	case api.MAppend:
		c.takeAppend(m)
	case api.MAck:
		c.takeAck(m)
	case api.MInstall:
		c.takeInstall(m)
	case api.MMore:
		c.takeMore(m)
	}
}

// led tells whether there is a leader that the core knows to be there still, so that nobody need stand.
func (c *Core) led() bool {
	return c.role == Leader || c.leads != nobody && c.drawn-c.left < Wait
}

// refuse tells the sender of a letter of an elder Term, if it waits for an answer, the core's own.
func (c *Core) refuse(m api.Letter) {
	switch m.Kind {
	case api.MAsk:
		c.write(m.From, api.Letter{Kind: api.MVote})
	case api.MAppend, api.MInstall:
		c.ack(m.From, false, c.last())
	}
}

// ack tells f whether the core has what it sent.
func (c *Core) ack(f int, yes bool, index int) {
	c.write(f, api.Letter{Kind: api.MAck, Yes: yes, Index: index})
}

// hear takes f for the leader.
func (c *Core) hear(f int) {
	c.role, c.leads, c.left = Follower, f, c.drawn
}

// takeAsk gives the core's vote, if it is free and the sender's log isn't behind the core's.
func (c *Core) takeAsk(m api.Letter) {
	own := c.term(c.last())
	free := c.hard.Vote == nobody || c.hard.Vote == m.From
	yes := free && (m.At > own || m.At == own && m.Index >= c.last())
	if yes {
		c.hard.Vote = m.From
		c.left = c.drawn
	}
	c.write(m.From, api.Letter{Kind: api.MVote, Yes: yes})
}

// takeVote counts a vote for the core.
func (c *Core) takeVote(m api.Letter) {
	if c.role != Candidate || !m.Yes {
		return
	}
	c.votes |= 1 << m.From
	if c.chosen() {
		c.lead()
	}
}

// takeAppend makes a leader's entries the core's own.
func (c *Core) takeAppend(m api.Letter) {
	if c.role == Leader || c.against(m) {
		return
	}
	c.hear(m.From)
	switch {
	case m.Index > c.last():
		c.ack(m.From, false, c.last())
	case m.Index >= c.hard.Base && c.term(m.Index) != m.At:
		c.ack(m.From, false, m.Index-1)
	default:
		to := c.adopt(m.Index, m.Entries)
		c.commit = max(c.commit, min(m.Commit, to))
		c.ack(m.From, true, to)
	}
}

// against tells whether an entry of m is another one than what the core knows to be sure.
func (c *Core) against(m api.Letter) bool {
	for k, e := range m.Entries {
		n := m.Index + 1 + k
		if c.hard.Base <= n && n <= c.commit && c.term(n) != e.Term {
			return true
		}
	}
	return false
}

// adopt makes those of l, which stand behind index, the core's own that it hasn't yet and has room for, and answers up to where it has them.
func (c *Core) adopt(index int, l []api.Entry) int {
	for k, e := range l {
		n := index + 1 + k
		if c.has(n, e.Term) {
			continue
		}
		if n-c.hard.Base > api.MaxLog {
			return n - 1
		}
		c.hard.Log = append(c.hard.Log[:n-1-c.hard.Base], e)
	}
	return index + len(l)
}

// has tells whether the core has an entry with that number and term; those up to Base are sure, whatever their terms were.
func (c *Core) has(n, term int) bool {
	return n <= c.hard.Base || n <= c.last() && c.term(n) == term
}

// takeAck takes what a node says of what the core sent to it.
func (c *Core) takeAck(m api.Letter) {
	if c.role != Leader || m.Index > c.last() {
		return
	}
	p := &c.peers[m.From]
	switch {
	case !m.Yes:
		p.next = max(min(p.next-1, m.Index+1), p.match+1)
		c.send(m.From)
	case m.Index > p.match:
		*p = peer{next: m.Index + 1, match: m.Index}
		c.reckon()
		if c.role == Leader && p.next <= c.last() {
			c.send(m.From)
		}
	}
}

// takeInstall takes a piece of a leader's snapshot.
func (c *Core) takeInstall(m api.Letter) {
	if c.role == Leader {
		return
	}
	c.hear(m.From)
	if m.Index <= c.commit {
		c.ack(m.From, true, m.Index)
		return
	}
	what := piece{index: m.Index, at: m.At, size: m.Size}
	if m.Off == 0 {
		c.under = way{what: what}
	}
	if c.under.what != what {
		c.write(m.From, api.Letter{Kind: api.MMore, Index: m.Index})
		return
	}
	if m.Off == len(c.under.bytes) {
		c.under.bytes = append(c.under.bytes, m.Data...)
	}
	if n := len(c.under.bytes); n < m.Size {
		c.write(m.From, api.Letter{Kind: api.MMore, Index: m.Index, Off: n})
		return
	}
	c.install(m.Members)
	c.ack(m.From, true, m.Index)
}

// install puts the snapshot that has come as a whole in the place of the entries that it has. What stands behind them stays, if they were those of the snapshot.
func (c *Core) install(members int) {
	what, snap := c.under.what, string(c.under.bytes)
	var behind []api.Entry
	if what.index <= c.last() && c.term(what.index) == what.at {
		behind = copied(c.hard.Log[what.index-c.hard.Base:])
	}
	c.standOn(what, members, snap, behind)
	c.commit = what.index
	c.under = way{}
}

// standOn makes the core stand on a snapshot, with the entries of l behind it.
func (c *Core) standOn(what piece, members int, snap string, l []api.Entry) {
	h := &c.hard
	h.Base, h.BaseTerm, h.Members, h.Snap, h.Log = what.index, what.at, members, snap, l
}

// takeMore sends a node the piece of the snapshot that it wants.
func (c *Core) takeMore(m api.Letter) {
	if c.role != Leader || m.Index != c.hard.Base {
		return
	}
	p := &c.peers[m.From]
	if p.next > c.hard.Base || m.Off >= len(c.hard.Snap) || m.Off == p.off {
		return
	}
	p.off = m.Off
	c.send(m.From)
}
