package wal_test

import (
	"math/rand"
	"slices"
	"strings"
	"testing"

	"impost/api"
	"impost/disk"
	"impost/wal"
)

// P18.1

// good is right, and no number of it stands at an edge.
func good() api.Hard {
	return api.Hard{Term: 5, Vote: 3, Base: 9, BaseTerm: 2, Members: 21, Snap: "snap", Log: log(en(2, "x"), en(3, ""), of(3, 17), en(5, "y"))}
}

// plain is right, without a snapshot.
func plain() api.Hard {
	return api.Hard{Term: 5, Vote: 3, Members: 21, Log: log(en(1, "x"), en(3, ""), of(3, 17), en(5, "y"))}
}

// rightIs fails, if Right says otherwise, or the model does, or a Save is refused just where it shouldn't be.
func rightIs(t *testing.T, what any, h api.Hard, want bool) {
	t.Helper()
	if got := wal.Right(h); got != want {
		t.Errorf("%v: Right of %s: %v", what, brief(h), got)
	}
	if why := wrong(h); (why == "") != want {
		t.Errorf("%v: the model says %q", what, why)
	}
	d := disk.New()
	w, _ := wal.Open(d)
	e := w.Save(h)
	if (e == api.OK) != want || !want && e != api.ErrArg || (len(d.Names()) == 1) != want {
		t.Errorf("%v: Save of %s: %d, %q", what, brief(h), e, d.Names())
	}
}

func TestRightAsItIs(t *testing.T) {
	rightIs(t, "good", good(), true)
	rightIs(t, "plain", plain(), true)
	rightIs(t, "first", api.Hard{Vote: -1, Members: 1}, true)
	rightIs(t, "zero", api.Hard{}, false)
	rightIs(t, "none's", api.Hard{Vote: -1}, false)
}

// TestRightNumbers puts edges to each number by itself.
func TestRightNumbers(t *testing.T) {
	for _, c := range []struct {
		what string
		at   func(h *api.Hard) *int
		yes  []int
		no   []int
	}{
		{"Term", func(h *api.Hard) *int { return &h.Term }, []int{5, 6, topTerm - 1, topTerm}, []int{least, -1, 0, 1, 2, 4, topTerm + 1, most}},
		{"Vote", func(h *api.Hard) *int { return &h.Vote }, []int{-1, 0, 1, 5, 6}, []int{least, -2, 7, 8, most}},
		{"Base", func(h *api.Hard) *int { return &h.Base }, []int{1, 2, topIndex - 5, topIndex - 4}, []int{least, -9, -1, 0, topIndex - 3, topIndex, topIndex + 1, most - 3, most}},
		{"BaseTerm", func(h *api.Hard) *int { return &h.BaseTerm }, []int{1, 2}, []int{least, -1, 0, 3, 5, 6, topTerm, most}},
		{"Members", func(h *api.Hard) *int { return &h.Members }, []int{1, 2, 64, 126, 127}, []int{least, -1, 0, 128, 255, most}},
	} {
		for k, l := range [][]int{c.no, c.yes} {
			for _, n := range l {
				h := good()
				*c.at(&h) = n
				rightIs(t, c.what, h, k == 1)
			}
		}
	}
}

// TestRightTerms has no Log, so that BaseTerm alone is held against Term.
func TestRightTerms(t *testing.T) {
	for _, top := range []int{0, 1, 2, topTerm - 1, topTerm} {
		for _, n := range []int{least, -1, 0, 1, 2, 3, topTerm - 1, topTerm, topTerm + 1, most} {
			h := api.Hard{Term: top, Vote: -1, Base: 7, BaseTerm: n, Members: 1, Snap: "s"}
			rightIs(t, "BaseTerm", h, n > 0 && n <= top)
			h.Base, h.Snap = 0, ""
			rightIs(t, "BaseTerm without Base", h, n == 0)
		}
	}
	for _, n := range []int{0, 1, topIndex - 1, topIndex, topIndex + 1, -1, least, most} {
		h := api.Hard{Term: 3, Vote: -1, Base: n, BaseTerm: 3, Members: 1, Snap: "s"}
		rightIs(t, "Base", h, n > 0 && n <= topIndex)
	}
}

func TestRightSnap(t *testing.T) {
	for _, c := range []struct {
		n    int
		with bool
		base bool
	}{{0, false, true}, {1, true, false}, {2, true, false}, {longImage - 1, true, false}, {longImage, true, false}, {longImage + 1, false, false}, {2 * longImage, false, false}} {
		h := good()
		h.Snap = strings.Repeat("s", c.n)
		rightIs(t, c.n, h, c.with)
		h = plain()
		h.Snap = strings.Repeat("s", c.n)
		rightIs(t, c.n, h, c.base)
	}
	h := good()
	h.Snap = "\x00"
	rightIs(t, "a nought", h, true)
}

// TestRightLength has Logs about as long as may be, anywhere and at the last numbers.
func TestRightLength(t *testing.T) {
	for _, n := range []int{0, 1, 2, longLog - 1, longLog, longLog + 1, longLog + 2, 2 * longLog, 1000} {
		h := good()
		h.Log = slices.Repeat(log(en(3, "")), n)
		rightIs(t, n, h, n <= longLog)
		for _, back := range []int{-1, 0, 1, 2, longLog - 1, longLog, longLog + 1} {
			h.Base = topIndex - back
			rightIs(t, []int{n, back}, h, n <= longLog && n <= back)
		}
	}
}

// TestRightEntryTerms has each three Terms, behind a BaseTerm of 0 and others.
func TestRightEntryTerms(t *testing.T) {
	for _, base := range []int{0, 1, 2, 3} {
		for k := range 6 * 6 * 6 {
			a, b, c := k%6-1, k/6%6-1, k/36-1
			h := api.Hard{Term: 3, Vote: 0, BaseTerm: base, Members: 3, Log: log(en(a, ""), en(b, "q"), of(c, 1))}
			if base > 0 {
				h.Base, h.Snap = 4, "s"
			}
			rightIs(t, k, h, a > 0 && a >= base && b >= a && c >= b && c <= 3)
		}
	}
	for _, n := range []int{least, topTerm, topTerm + 1, most} {
		h := good()
		h.Log = log(en(n, ""))
		rightIs(t, n, h, false)
		h.Term = topTerm
		rightIs(t, n, h, n == topTerm)
	}
}

// TestRightEntries puts edges into an entry at each place.
func TestRightEntries(t *testing.T) {
	long, longer := strings.Repeat("d", longEntry), strings.Repeat("d", longEntry+1)
	for at := range 4 {
		for _, c := range []struct {
			members int
			data    string
			want    bool
		}{
			{0, "", true}, {0, "a", true}, {0, long[1:], true}, {0, long, true}, {0, longer, false}, {0, strings.Repeat("d", 1<<16), false}, {0, "\x00", true},
			{1, "", true}, {64, "", true}, {126, "", true}, {127, "", true}, {128, "", false}, {-1, "", false}, {least, "", false}, {most, "", false},
			{1, "a", false}, {127, long, false}, {127, "\x00", false}, {128, "a", false}, {-1, "a", false}, {1, longer, false},
		} {
			for _, h := range []api.Hard{good(), plain()} {
				h.Log[at].Members, h.Log[at].Data = c.members, c.data
				rightIs(t, at, h, c.want)
			}
		}
	}
}

// TestRightDrawn has edges at several places at once.
func TestRightDrawn(t *testing.T) {
	draw := rand.New(rand.NewSource(181))
	some := func(l ...int) int { return l[draw.Intn(len(l))] }
	count := [2]int{}
	for range 300000 {
		h := good()
		if draw.Intn(2) == 0 {
			h = plain()
		}
		for range draw.Intn(4) {
			turnOne(draw, some, &h)
		}
		want := wrong(h) == ""
		if got := wal.Right(h); got != want {
			t.Fatalf("Right of %s: %v; %q", brief(h), got, wrong(h))
		}
		if want {
			count[1]++
		}
		count[0]++
	}
	if count[1] < 20000 || count[0]-count[1] < 20000 {
		t.Errorf("%d of %d are right", count[1], count[0])
	}
}

// turnOne puts something else to one place of h.
func turnOne(draw *rand.Rand, some func(l ...int) int, h *api.Hard) {
	switch draw.Intn(9) {
	case 0:
		h.Term = some(-1, 0, 2, 3, 4, 5, 6, topTerm, topTerm+1)
	case 1:
		h.Vote = some(-2, -1, 0, 6, 7)
	case 2:
		h.Base = some(-1, 0, 1, topIndex-4, topIndex-3, topIndex, topIndex+1)
	case 3:
		h.BaseTerm = some(-1, 0, 1, 2, 3, 5, 6)
	case 4:
		h.Members = some(-1, 0, 1, 127, 128)
	case 5:
		h.Snap = strings.Repeat("s", some(0, 0, 1, longImage, longImage+1))
	case 6:
		h.Log = h.Log[:draw.Intn(len(h.Log)+1)]
	case 7:
		h.Base, h.BaseTerm, h.Snap = 0, 0, ""
	case 8:
		if len(h.Log) > 0 {
			e := &h.Log[draw.Intn(len(h.Log))]
			e.Term, e.Members = some(0, 1, 2, 3, 3, 4, 5, 6), some(-1, 0, 0, 0, 1, 127, 128)
			e.Data = strings.Repeat("d", some(0, 0, 1, longEntry, longEntry+1))
		}
	}
}
