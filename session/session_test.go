package session

import (
	"math/rand"
	"slices"
	"testing"

	"impost/api"
)

func TestRuns(t *testing.T) {
	r := api.Reply{Number: 7, Gross: 119}
	l, e := Join(nil, 3)
	if want := of(fresher(3)); e != api.OK || !slices.Equal(l, want) {
		t.Fatalf("Join 3: %v, %d", l, e)
	}
	l, e = Keep(l, 3, 5, r)
	if want := of(api.Session{Id: 3, Last: 5, Reply: r}); e != api.OK || !slices.Equal(l, want) {
		t.Fatalf("Keep 3, 5: %v, %d", l, e)
	}
	for i, c := range []struct {
		id, seq int
		want    api.Reply
		old     bool
		why     api.Errno
	}{
		{3, 5, r, true, api.OK}, {3, 4, api.Reply{}, false, api.ErrStale}, {3, 6, api.Reply{}, false, api.OK}, {9, 1, api.Reply{}, false, api.ErrGone},
	} {
		if got, old, e := Look(l, c.id, c.seq); got != c.want || old != c.old || e != c.why {
			t.Errorf("%d: %v, %v, %d", i, got, old, e)
		}
	}
	if m, e := Keep(l, 3, 5, r); m != nil || e != api.ErrTaken {
		t.Errorf("Keep 3, 5 again: %v, %d", m, e)
	}
	if m, e := Join(l, 3); m != nil || e != api.ErrTaken {
		t.Errorf("Join 3 again: %v, %d", m, e)
	}
	if m, e := Leave(l, 9); m != nil || e != api.ErrNone {
		t.Errorf("Leave 9: %v, %d", m, e)
	}
}

// P13.1

func TestRightByLength(t *testing.T) {
	if !Right(nil) || !Right([]api.Session{}) {
		t.Error("no session")
	}
	for n := range 40 {
		if Right(many(n)) != (n <= 8) {
			t.Errorf("%d sessions: %v", n, n > 8)
		}
	}
}

func TestRightByIds(t *testing.T) {
	for i, c := range []struct {
		ids  []int
		want bool
	}{
		{[]int{1}, true}, {[]int{2}, true}, {[]int{cap40}, true}, {[]int{cap40 + 1}, true}, {[]int{most}, true},
		{[]int{0}, false}, {[]int{-1}, false}, {[]int{far}, false}, {[]int{-most}, false},
		{[]int{1, 2}, true}, {[]int{1, 3}, true}, {[]int{1, most}, true}, {[]int{most - 1, most}, true}, {[]int{1, 1 << 32}, true},
		{[]int{1, 1}, false}, {[]int{2, 1}, false}, {[]int{most, most}, false}, {[]int{most, 1}, false}, {[]int{most, far}, false}, {[]int{1 << 32, 1}, false},
		{[]int{0, 1}, false}, {[]int{-1, 1}, false}, {[]int{far, most}, false}, {[]int{1, 0}, false}, {[]int{1, -1}, false}, {[]int{0, 0}, false}, {[]int{-2, -1}, false},
		{[]int{1, 2, 3}, true}, {[]int{1, 2, 2}, false}, {[]int{1, 1, 2}, false}, {[]int{1, 3, 2}, false}, {[]int{2, 1, 3}, false}, {[]int{1, 2, 1}, false}, {[]int{3, 2, 1}, false},
		{[]int{1, 2, 3, 4, 5, 6, 7, 8}, true}, {[]int{2, 3, 4, 5, 6, 7, 8, 9}, true}, {[]int{1, 2, 3, 4, 5, 6, 7, 8, 9}, false}, {[]int{8, 7, 6, 5, 4, 3, 2, 1}, false},
	} {
		var l []api.Session
		var m []api.Session
		for _, id := range c.ids {
			l, m = append(l, fresher(id)), append(m, kept(id, 4))
		}
		if Right(l) != c.want || Right(m) != c.want {
			t.Errorf("%d: %v: %v", i, c.ids, !c.want)
		}
	}
}

func TestRightByLast(t *testing.T) {
	for last, want := range map[int]bool{far: false, far + 1: false, -cap40: false, -1: false, 1: true, 2: true, 1 << 31: true, 1 << 32: true, cap40 - 1: true, cap40: true, cap40 + 1: false, 1 << 48: false, 1<<48 + 1: false, most - 1: false, most: false} {
		for i, s := range of(kept(4, last), api.Session{Id: 4, Last: last}, api.Session{Id: 4, Last: last, Reply: api.Reply{Number: far, Gross: most}}) {
			if Right(of(s)) != want {
				t.Errorf("reply %d beside a Last of %d: %v", i, last, !want)
			}
		}
	}
}

// TestRightByReply: beside a Last of 0 the Reply is zero in each of its fields; beside another one it is any.
func TestRightByReply(t *testing.T) {
	if !Right(of(fresher(1))) {
		t.Error("a session that is fresh")
	}
	for _, n := range []int{far, -1, 1, 2, 19, 20, 1 << 32, cap40 + 1, most} {
		for i, r := range []api.Reply{{Why: api.Errno(n)}, {Number: n}, {Gross: n}, {Number: n, Gross: -n}, {Why: api.Errno(n), Number: n, Gross: n}} {
			if Right(of(api.Session{Id: 1, Reply: r})) {
				t.Errorf("%d: %v beside a Last of 0", i, r)
			}
			if !Right(of(api.Session{Id: 1, Last: 1, Reply: r})) || !Right(of(api.Session{Id: most, Last: cap40, Reply: r})) {
				t.Errorf("%d: %v beside a Last", i, r)
			}
		}
	}
}

func TestRightOfWrongLists(t *testing.T) {
	for why, l := range wrongLists() {
		if Right(l) {
			t.Error(why)
		}
	}
	if !Right(some()) {
		t.Error("a list that is right")
	}
}

// TestRightOfEachPlace spoils one session of a full list at a time.
func TestRightOfEachPlace(t *testing.T) {
	for i := range eight {
		for why, bad := range faults() {
			l := many(eight)
			bad.Id = l[i].Id
			l[i] = bad
			if Right(l) {
				t.Errorf("session %d: %s", i, why)
			}
		}
		if i == 0 {
			continue
		}
		l := many(eight)
		l[i-1], l[i] = l[i], l[i-1]
		if Right(l) {
			t.Errorf("%d and the one ahead are swapped", i)
		}
		l = many(eight)
		l[i].Id = l[i-1].Id
		if Right(l) {
			t.Errorf("%d and the one ahead are alike", i)
		}
		l[i].Id = l[i-1].Id + 1
		if !Right(l) {
			t.Errorf("%d is one above the one ahead", i)
		}
	}
}

func TestRightOfDrawn(t *testing.T) {
	draw := rand.New(rand.NewSource(131))
	seen := [2]int{}
	for range 20000 {
		l := spoilt(draw, drawnList(draw))
		want := isRight(l)
		if Right(l) != want {
			t.Fatalf("Right(%v) = %v", l, !want)
		}
		if want {
			seen[1]++
		} else {
			seen[0]++
		}
	}
	if min(seen[0], seen[1]) < 1000 {
		t.Errorf("too few of one sort were drawn: %v", seen)
	}
}

// P13.2

func TestJoinPlaces(t *testing.T) {
	for i, c := range []struct {
		l      []api.Session
		id, at int
	}{
		{nil, 1, 0}, {[]api.Session{}, 1, 0}, {nil, most, 0}, {nil, cap40 + 1, 0},
		{of(fresher(5)), 1, 0}, {of(fresher(5)), 4, 0}, {of(fresher(5)), 6, 1}, {of(fresher(5)), most, 1},
		{some(), 1, 0}, {some(), 4, 2}, {some(), 6, 2}, {some(), 8, 3}, {some(), 10, 4}, {some(), 11, 4}, {some(), 13, 5}, {some(), most - 2, 5}, {some(), most, 6},
		{many(7), 1, 0}, {many(7), 9, 0}, {many(7), 11, 1}, {many(7), 25, 2}, {many(7), 69, 6}, {many(7), 71, 7}, {many(7), most, 7},
	} {
		got, e := Join(c.l, c.id)
		if want := slices.Insert(slices.Clone(c.l), c.at, fresher(c.id)); e != api.OK || !slices.Equal(got, want) {
			t.Errorf("%d: %v, %d, not %v", i, got, e, want)
		}
	}
}

// TestJoinAtEveryPlace lacks one session at each place of lists of each length.
func TestJoinAtEveryPlace(t *testing.T) {
	for n := 1; n <= eight; n++ {
		for i := range n {
			want := many(n)
			want[i] = fresher(want[i].Id)
			got, e := Join(slices.Delete(slices.Clone(want), i, i+1), want[i].Id)
			if e != api.OK || !slices.Equal(got, want) || !Right(got) {
				t.Errorf("%d of %d: %v, %d", i, n, got, e)
			}
		}
	}
}

func TestJoinByItsId(t *testing.T) {
	for id, want := range map[int]api.Errno{far: api.ErrArg, far + 1: api.ErrArg, -cap40: api.ErrArg, -1: api.ErrArg, 0: api.ErrArg, 1: api.OK, 2: api.OK, 1 << 32: api.OK, cap40 - 1: api.OK, cap40: api.OK, cap40 + 1: api.OK, most - 1: api.OK, most: api.OK} {
		for _, l := range [][]api.Session{nil, {}, of(fresher(3)), many(7)} {
			got, e := Join(l, id)
			if e != want || e == api.OK && len(got) != len(l)+1 || e != api.OK && got != nil {
				t.Errorf("%d: %v, %d", id, got, e)
			}
		}
	}
}

// TestJoinOfTakenIds asks for each Id of lists of any length, a full one too.
func TestJoinOfTakenIds(t *testing.T) {
	for _, l := range [][]api.Session{many(1), many(2), many(7), many(8), some()} {
		for _, s := range l {
			if got, e := Join(l, s.Id); got != nil || e != api.ErrTaken {
				t.Errorf("%d: %v, %d", s.Id, got, e)
			}
		}
	}
}

func TestJoinInAFullList(t *testing.T) {
	for _, id := range []int{1, 11, 45, 79, 81, cap40, most} {
		if got, e := Join(many(8), id); got != nil || e != api.ErrFull {
			t.Errorf("%d: %v, %d", id, got, e)
		}
		if got, e := Join(many(7), id); len(got) != 8 || e != api.OK {
			t.Errorf("%d in one less: %v, %d", id, got, e)
		}
	}
}

// TestJoinsFirstFault has, for each refusal, all of those behind it that can be as well.
func TestJoinsFirstFault(t *testing.T) {
	full := many(8)
	wrong := slices.Clone(full)
	wrong[3].Last = -1
	low := slices.Clone(full)
	low[0].Id = 0
	for i, c := range []struct {
		l    []api.Session
		id   int
		want api.Errno
	}{
		{wrong, 0, api.ErrArg}, {wrong, 10, api.ErrArg}, {wrong, 40, api.ErrArg}, {wrong, 5, api.ErrArg}, {many(9), 90, api.ErrArg}, {many(9), 5, api.ErrArg}, {many(9), 10, api.ErrArg},
		{low, 0, api.ErrArg}, {low, 20, api.ErrArg}, {low, 5, api.ErrArg},
		{full, 0, api.ErrArg}, {full, -1, api.ErrArg}, {full, far, api.ErrArg}, {nil, 0, api.ErrArg},
		{full, 10, api.ErrTaken}, {full, 80, api.ErrTaken}, {full[:7], 70, api.ErrTaken},
		{full, 5, api.ErrFull}, {full, most, api.ErrFull}, {full[:7], 80, api.OK},
	} {
		if got, e := Join(c.l, c.id); e != c.want || e != api.OK && got != nil {
			t.Errorf("%d: %v, %d, not %d", i, got, e, c.want)
		}
	}
}

func TestLeaveOfEach(t *testing.T) {
	for n := 1; n <= eight; n++ {
		for i, s := range many(n) {
			got, e := Leave(many(n), s.Id)
			if want := slices.Delete(many(n), i, i+1); e != api.OK || !slices.Equal(got, want) || !Right(got) {
				t.Errorf("%d of %d: %v, %d", i, n, got, e)
			}
			if again, e := Leave(got, s.Id); again != nil || e != api.ErrNone {
				t.Errorf("%d of %d again: %v, %d", i, n, again, e)
			}
		}
	}
	for i, s := range some() {
		if got, e := Leave(some(), s.Id); e != api.OK || !slices.Equal(got, slices.Delete(some(), i, i+1)) {
			t.Errorf("%v: %v, %d", s, got, e)
		}
	}
}

// absent are Ids that some and many haven't, and numbers that are none.
func absent() []int {
	return []int{far, far + 1, -10, -3, -1, 0, 1, 5, 11, 14, 19, 81, 1 << 32, 1<<32 + 3, 1<<32 + 10, cap40, cap40 + 10, most - 2, most}
}

func TestLeaveOfNone(t *testing.T) {
	for _, id := range absent() {
		for i, l := range [][]api.Session{nil, {}, some(), many(1), many(7), many(8)} {
			if got, e := Leave(l, id); got != nil || e != api.ErrNone {
				t.Errorf("%d of list %d: %v, %d", id, i, got, e)
			}
		}
	}
}

// TestWrongListsGoAheadOfAll asks for what there is and what there isn't, in numbers that can be and that can't.
func TestWrongListsGoAheadOfAll(t *testing.T) {
	for why, l := range wrongLists() {
		for _, s := range append(slices.Clone(l), fresher(5), fresher(0), fresher(far), fresher(most)) {
			if got, e := Join(l, s.Id); got != nil || e != api.ErrArg {
				t.Errorf("Join %d, %s: %v, %d", s.Id, why, got, e)
			}
			if got, e := Leave(l, s.Id); got != nil || e != api.ErrArg {
				t.Errorf("Leave %d, %s: %v, %d", s.Id, why, got, e)
			}
			for _, seq := range []int{0, 1, s.Last - 1, s.Last, s.Last + 1, cap40, cap40 + 1, far, most} {
				if got, old, e := Look(l, s.Id, seq); got != (api.Reply{}) || old || e != api.ErrArg {
					t.Errorf("Look %d, %d, %s: %v, %v, %d", s.Id, seq, why, got, old, e)
				}
				if got, e := Keep(l, s.Id, seq, reply(1)); got != nil || e != api.ErrArg {
					t.Errorf("Keep %d, %d, %s: %v, %d", s.Id, seq, why, got, e)
				}
			}
		}
	}
}

func TestJoinAndLeaveOfDrawn(t *testing.T) {
	draw := rand.New(rand.NewSource(132))
	joins, leaves := map[api.Errno]int{}, map[api.Errno]int{}
	for range 20000 {
		l := drawnList(draw)
		if draw.Intn(4) == 0 {
			l = spoilt(draw, l)
		}
		id := drawnNumber(draw)
		got, e := Join(l, id)
		if want, why := wantJoin(l, id); e != why || !slices.Equal(got, want) || e != api.OK && got != nil {
			t.Fatalf("Join(%v, %d) = %v, %d, not %v, %d", l, id, got, e, want, why)
		}
		joins[e]++
		id = drawnId(draw, l)
		got, e = Leave(l, id)
		if want, why := wantLeave(l, id); e != why || !slices.Equal(got, want) || e != api.OK && got != nil {
			t.Fatalf("Leave(%v, %d) = %v, %d, not %v, %d", l, id, got, e, want, why)
		}
		leaves[e]++
	}
	if min(joins[api.OK], joins[api.ErrArg], joins[api.ErrTaken], joins[api.ErrFull], leaves[api.OK], leaves[api.ErrArg], leaves[api.ErrNone]) < 100 {
		t.Error("too few of one sort were drawn:", joins, leaves)
	}
}
