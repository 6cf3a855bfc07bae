package conf_test

import (
	"math/rand"
	"strings"
	"testing"

	"impost/api"
	"impost/conf"
)

// P21.4

// says is an entry by which the nodes of m belong.
func says(term, m int) api.Entry { return api.Entry{Term: term, Members: m} }

// holds is an entry of a command.
func holds(term int, data string) api.Entry { return api.Entry{Term: term, Data: data} }

// hard is one with that Base, who belonged then, and that Log.
func hard(base, members int, log ...api.Entry) api.Hard {
	h := api.Hard{Term: 9, Vote: 2, Base: base, Members: members, Log: log}
	if base != 0 {
		h.BaseTerm, h.Snap = 1, "snapshot"
	}
	return h
}

func ofIs(t *testing.T, h api.Hard, members, number int) {
	t.Helper()
	if m, n := conf.Of(h); m != members || n != number {
		t.Errorf("Of(Base %d, Members %d, Log %.200v) is %d, %d, not %d, %d", h.Base, h.Members, h.Log, m, n, members, number)
	}
}

// bases are what a Base may be, with room for a log behind it.
func bases() []int { return []int{0, 1, 2, 5, 119, 1 << 20, topIndex - longLog} }

func TestOfWithoutALog(t *testing.T) {
	for _, base := range bases() {
		for m := 1; m <= allNodes; m++ {
			ofIs(t, hard(base, m), m, base)
			ofIs(t, hard(base, m, []api.Entry{}...), m, base)
			ofIs(t, hard(base, m, make([]api.Entry, 0, 9)...), m, base)
		}
	}
	ofIs(t, hard(topIndex, 7), 7, topIndex)
	ofIs(t, api.Hard{}, 0, 0)
}

// TestOfWithoutMembers: entries that have none say nothing of who belongs.
func TestOfWithoutMembers(t *testing.T) {
	for _, base := range bases() {
		ofIs(t, hard(base, 7, holds(1, "")), 7, base)
		ofIs(t, hard(base, 7, holds(1, "x"), holds(1, ""), holds(9, "yz")), 7, base)
		ofIs(t, hard(base, 64, make([]api.Entry, longLog)...), 64, base)
	}
}

func TestOfTheFirstOneWithinAndTheLast(t *testing.T) {
	x := holds(3, "x")
	for _, base := range bases() {
		for m := 1; m <= allNodes; m++ {
			e := says(3, m)
			ofIs(t, hard(base, 5, e), m, base+1)
			ofIs(t, hard(base, 5, e, x, x), m, base+1)
			ofIs(t, hard(base, 5, x, e, x), m, base+2)
			ofIs(t, hard(base, 5, x, x, e), m, base+3)
			ofIs(t, hard(base, m, e), m, base+1)
		}
		for _, n := range []int{1, 2, 99, 120, 121, longLog - 1, longLog} {
			log := make([]api.Entry, longLog)
			log[n-1].Members = 9
			ofIs(t, hard(base, 5, log...), 9, base+n)
		}
	}
}

// TestOfSeveral: the last one counts, whatever those ahead of it say.
func TestOfSeveral(t *testing.T) {
	x := holds(3, "x")
	for _, base := range bases() {
		ofIs(t, hard(base, 7, says(1, 3), says(1, 1)), 1, base+2)
		ofIs(t, hard(base, 7, says(1, 3), says(1, 1), x), 1, base+2)
		ofIs(t, hard(base, 7, says(1, 3), x, says(1, 1)), 1, base+3)
		ofIs(t, hard(base, 7, says(1, 3), x, says(2, 7), x), 7, base+3)
		ofIs(t, hard(base, 7, x, says(9, 127), says(2, 3), says(1, 15), x, x), 15, base+4)
		ofIs(t, hard(base, 7, says(1, 3), says(1, 3), says(1, 3)), 3, base+3)
	}
	var log []api.Entry
	for n := 1; n <= longLog; n++ {
		log = append(log, says(1, 1+n%allNodes))
		ofIs(t, hard(40, 5, log...), 1+n%allNodes, 40+n)
	}
}

// TestOfAsksNothing: what a Hard has need not be right, nor hang together. Any Members but 0 counts, and is answered as it is.
func TestOfAsksNothing(t *testing.T) {
	for _, m := range []int{-1, -127, 128, 255, 1 << 40, least, most} {
		ofIs(t, hard(5, m), m, 5)
		ofIs(t, hard(5, m, holds(1, "x")), m, 5)
		ofIs(t, hard(5, 7, says(1, 3), says(1, m), holds(1, "x")), m, 7)
		ofIs(t, hard(5, m, says(1, 3)), 3, 6)
	}
	ofIs(t, hard(5, 0), 0, 5)
	ofIs(t, hard(5, 0, holds(1, "x")), 0, 5)
	ofIs(t, hard(-5, 7), 7, -5)
	ofIs(t, hard(-5, 7, holds(1, ""), says(1, 3)), 3, -3)
	ofIs(t, hard(least, 7, says(1, 3)), 3, least+1)
	ofIs(t, hard(most, 7, holds(1, "x")), 7, most)
	ofIs(t, hard(most-2, 7, says(1, 1), says(1, 3)), 3, most)
	ofIs(t, api.Hard{Log: []api.Entry{{Members: 3, Data: "both"}, {Term: -1}}}, 3, 1)
	long := make([]api.Entry, 5000)
	long[4321] = api.Entry{Term: -9, Members: 6, Data: strings.Repeat("z", 3000)}
	ofIs(t, hard(7, 1, long...), 6, 7+4322)
}

// TestOfHangsOnNothingElse: Term, Vote, BaseTerm, Snap, the entries' Terms and Data make no difference.
func TestOfHangsOnNothingElse(t *testing.T) {
	for _, h := range []api.Hard{hard(0, 7), hard(5, 7, holds(1, "x")), hard(5, 7, says(1, 3), holds(1, "x"), says(2, 1), holds(2, ""))} {
		m, n := conf.Of(h)
		for _, x := range []int{least, -1, 0, 1, 6, 127, most} {
			h.Term, h.Vote, h.BaseTerm, h.Snap = x, x, x, strings.Repeat("s", x&7)
			for k := range h.Log {
				h.Log[k].Term, h.Log[k].Data = x, h.Snap
			}
			ofIs(t, h, m, n)
		}
	}
}

// TestOfAnything holds it against a model that goes the other way.
func TestOfAnything(t *testing.T) {
	draw := rand.New(rand.NewSource(211))
	for range 20000 {
		h := hard(draw.Intn(topIndex), draw.Intn(allNodes+1))
		seldom := 1 + draw.Intn(12)
		for range draw.Intn(1 + draw.Intn(longLog)) {
			e := holds(draw.Intn(5), "x")
			if draw.Intn(seldom) == 0 {
				e = says(draw.Intn(5), draw.Intn(allNodes+1))
			}
			h.Log = append(h.Log, e)
		}
		m, n := of(h)
		ofIs(t, h, m, n)
	}
}
