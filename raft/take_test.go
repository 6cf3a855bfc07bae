package raft_test

import (
	"slices"
	"testing"

	"impost/api"
)

// P22.5: what is passed over, and Terms.

// roles are cores of each role in the Term 5, with their numbers: what they sent is taken.
func roles(t *testing.T) []*core {
	t.Helper()
	h := based(4, 3, 2, "snap", en(2, "a"), en(4, "b"))
	f, c, l := begin(t, 0, h, 0), standing(t, h), leading(t, h, 1)
	f.take(appends(2, 0, 5, 4, 2, 4))
	a := begin(t, 0, h, 0)
	a.take(vote(1, 0, 5, false))
	f.is(follows, 2, 4, 5, 10, 7)
	a.is(follows, -1, 3, 5, 10, 7)
	c.is(stands, -1, 3, 5, 10, 7)
	l.is(leads, 0, 3, 6, beats, 7)
	all := []*core{f, a, c, l}
	for _, x := range all {
		if x.c.Hard().Term != 5 {
			t.Fatal(x.c.Hard())
		}
		x.out()
	}
	return all
}

// each is one letter of each kind to the core 0, in a Term.
func each(term int) []api.Letter {
	return []api.Letter{
		ask(1, 0, term, 9, term), vote(1, 0, term, true), appends(1, 0, term, 5, 4, 5), ack(1, 0, term, true, 5),
		install(1, 0, term, 9, 4, 7, 0, 2, "a"), more(1, 0, term, 3, 1),
	}
}

// still asks that m changes nothing.
func still(x *core, m api.Letter) {
	x.t.Helper()
	h, v := x.c.Hard(), x.c.View()
	x.take(m)
	x.says()
	x.has(h)
	if x.c.View() != v {
		x.fail("is %+v, must be %+v", x.c.View(), v)
	}
}

// TestLettersThatAreNotRight are passed over by each role, though their Terms are above.
func TestLettersThatAreNotRight(t *testing.T) {
	for _, x := range roles(t) {
		for _, turn := range []func(m *api.Letter){
			func(m *api.Letter) { m.Kind = 0 },
			func(m *api.Letter) { m.Kind = 7 },
			func(m *api.Letter) { m.Kind = -1 },
			func(m *api.Letter) { m.From = 0 },
			func(m *api.Letter) { m.From = -1 },
			func(m *api.Letter) { m.From = topNode + 1 },
			func(m *api.Letter) { m.Term = 0 },
			func(m *api.Letter) { m.Term = topTerm + 1 },
			func(m *api.Letter) { m.Index = -1 },
			func(m *api.Letter) { m.Index = topIndex + 1 },
			func(m *api.Letter) { m.At = m.Term + 1 },
			func(m *api.Letter) { m.Commit = -1 },
			func(m *api.Letter) { m.Members = -1 },
			func(m *api.Letter) { m.Off = -1 },
			func(m *api.Letter) { m.Size = -1 },
			func(m *api.Letter) { m.Data += text(longPiece + 1) },
			func(m *api.Letter) { m.Entries = run(longBatch+1, 4) },
			func(m *api.Letter) { m.Entries = []api.Entry{en(3, "")} },
			func(m *api.Letter) { m.Entries = []api.Entry{en(4, text(longEntry+1))} },
		} {
			for _, m := range each(9) {
				turn(&m)
				still(x, m)
			}
		}
		still(x, api.Letter{})
		still(x, appends(1, 0, 9, topIndex, 4, 0, en(9, "")))
		still(x, install(1, 0, 9, 9, 4, 7, 2, 2, "a"))
		still(x, install(1, 0, 9, 9, 4, 7, 0, 2, ""))
		still(x, install(1, 0, 9, 0, 0, 7, 0, 2, "a"))
		still(x, more(1, 0, 9, 0, 1))
		still(x, ask(1, 0, 9, 0, 1))
	}
}

// TestLettersOfAnother are passed over.
func TestLettersOfAnother(t *testing.T) {
	for _, x := range roles(t) {
		for to := -1; to <= topNode+1; to++ {
			for _, term := range []int{4, 5, 9, topTerm} {
				for _, m := range each(term) {
					if m.To = to; to != 0 {
						still(x, m)
					}
				}
			}
		}
	}
}

// TestATermAbove is the core's from then on: it has no Vote in it, follows, and knows nobody that leads.
func TestATermAbove(t *testing.T) {
	for _, term := range []int{6, 9, topTerm} {
		for kind := range 6 {
			for _, x := range roles(t) {
				v := x.c.View()
				m := each(term)[kind]
				if m.Kind == isAsk && v.Role == leads || m.Kind == isAsk && v.Leads == 2 {
					still(x, m)
					continue
				}
				x.take(m)
				switch m.Kind {
				case isAsk:
					x.voted(term, 1)
					x.is(follows, -1, v.Commit, v.Last, 10, 7)
					x.says(vote(0, 1, term, true))
				case isAppend:
					x.voted(term, -1)
					x.is(follows, 1, 5, v.Last, 10, 7)
					x.says(ack(0, 1, term, true, 5))
				case isInstall:
					x.voted(term, -1)
					x.is(follows, 1, v.Commit, v.Last, 10, 7)
					x.says(more(0, 1, term, 9, 1))
				default:
					x.voted(term, -1)
					x.is(follows, -1, v.Commit, v.Last, v.Left, 7)
					x.says()
				}
			}
		}
	}
}

// TestATermBelow is answered by the core's own, if the sender waits for an answer; no more happens.
func TestATermBelow(t *testing.T) {
	for _, term := range []int{1, 2, 4} {
		for kind := range 6 {
			for _, x := range roles(t) {
				h, v := x.c.Hard(), x.c.View()
				m := each(term)[kind]
				m.At = min(m.At, term)
				x.take(m)
				switch {
				case m.Kind == isAsk && v.Role != leads && v.Leads != 2:
					x.says(vote(0, 1, 5, false))
				case m.Kind == isAppend, m.Kind == isInstall:
					x.says(ack(0, 1, 5, false, v.Last))
				default:
					x.says()
				}
				x.has(h)
				if x.c.View() != v {
					x.fail("is %+v, must be %+v", x.c.View(), v)
				}
			}
		}
	}
}

// TestTheTermOfTheCore: what each role makes of each kind then.
func TestTheTermOfTheCore(t *testing.T) {
	no, yes := vote(0, 1, 5, false), vote(0, 1, 5, true)
	had, wants := ack(0, 1, 5, true, 5), more(0, 1, 5, 9, 1)
	own := []api.Entry{en(5, "")}
	for kind, want := range [][][]api.Letter{
		{{}, {yes}, {no}, {}}, // of one that heard a leader, that heard none, that stands, that leads
		{{}, {}, {appends(0, 1, 5, 5, 4, 3, own...), appends(0, 2, 5, 5, 4, 3, own...)}, {}},
		{{had}, {had}, {had}, {}},
		{{}, {}, {}, {appends(0, 1, 5, 5, 4, 3, own...)}},
		{{wants}, {wants}, {wants}, {}},
		{{}, {}, {}, {}},
	} {
		for k, x := range roles(t) {
			x.take(each(5)[kind])
			if l := x.out(); !slices.EqualFunc(l, want[k], sameLetter) {
				t.Errorf("kind %d, core %d: %s, must be %s", kind+1, k, brief(l), brief(want[k]))
			}
		}
	}
}

// TestAnyoneIsAnswered, who doesn't belong as well.
func TestAnyoneIsAnswered(t *testing.T) {
	for from := 1; from <= topNode; from++ {
		x := begin(t, 0, logged(1, en(1, "a")), 0)
		x.take(ask(from, 0, 2, 1, 1))
		x.says(vote(0, from, 2, true))
		x.voted(2, from)
		x.take(appends(from, 0, 2, 1, 1, 1))
		x.says(ack(0, from, 2, true, 1))
		x.is(follows, from, 1, 1, 10, 7)
		x.take(install(from, 0, 2, 4, 1, 7, 0, 2, "a"))
		x.says(more(0, from, 2, 4, 1))
	}
}
