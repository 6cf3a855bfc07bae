package billing

import (
	"reflect"
	"slices"
	"strings"
	"testing"

	"impost/api"
)

// client plays commands one behind the other as a session's, each with the next number.
type client struct {
	t       *testing.T
	s       api.State
	id, seq int
}

// begin is the session 1 of a new state.
func begin(t *testing.T) *client {
	t.Helper()
	s, r := Apply(New(), by(0, 0, cJoin()))
	if r != told(1, 0) {
		t.Fatal(r)
	}
	return &client{t, s, 1, 0}
}

// ready is begin, with the rates of the chapter's runs, and zero, which has none.
func ready(t *testing.T) *client {
	t.Helper()
	c := begin(t)
	c.is(cLevy("std", day(2000, 1, 1), 1900), api.Reply{})
	c.is(cLevy("zero", day(2000, 1, 1), 0), api.Reply{})
	return c
}

// call makes the next call, and holds what comes of it against the model.
func (c *client) call(cmd api.Cmd) api.Reply {
	c.t.Helper()
	c.seq++
	s, r := checked(c.t, c.s, by(c.id, c.seq, cmd))
	c.s = s
	return r
}

// is makes the next call, which must be answered so.
func (c *client) is(cmd api.Cmd, want api.Reply) {
	c.t.Helper()
	if r := c.call(cmd); r != want {
		c.t.Errorf("%v: %v, not %v", cmd, r, want)
	}
}

// checked is Apply, held against the model.
func checked(t *testing.T, s api.State, c api.Call) (api.State, api.Reply) {
	t.Helper()
	got, r := Apply(s, c)
	want, reply := wantApply(s, c)
	if r != reply || !alike(got, want) {
		t.Fatalf("%v: %v, %v, not %v, %v", c, got, r, want, reply)
	}
	return got, r
}

// stays asks for a call that must be answered so, and leave the state as it is.
func stays(t *testing.T, s api.State, c api.Call, want api.Reply) {
	t.Helper()
	if got, r := Apply(s, c); r != want || !alike(got, s) {
		t.Errorf("%v: %v, not %v; %v", c, r, want, got)
	}
}

// remembers asks for a new call of the session 1 that must be refused so, and leave the state as it is but for that session.
func remembers(t *testing.T, s api.State, cmd api.Cmd, e api.Errno) {
	t.Helper()
	want := twin(s)
	i := slices.IndexFunc(want.Sessions, func(x api.Session) bool { return x.Id == 1 })
	want.Sessions[i].Last++
	want.Sessions[i].Reply = why(e)
	if got, r := Apply(s, by(1, want.Sessions[i].Last, cmd)); r != why(e) || !alike(got, want) {
		t.Errorf("%v: %v, not %d; %v", cmd, r, e, got)
	}
}

// P14.1

func TestNewHasNothing(t *testing.T) {
	s := New()
	if len(s.Table)+len(s.Series)+len(s.Posted)+len(s.Book)+len(s.Sessions) != 0 || s.Next != 1 || !Right(s) {
		t.Error(s)
	}
	joined, _ := Apply(s, by(0, 0, cJoin()))
	s.Next = 7
	if again := New(); !alike(again, api.State{Next: 1}) || joined.Next != 2 {
		t.Error(again, joined)
	}
}

// The chapter's table 'Runs'.
func TestRuns(t *testing.T) {
	c := begin(t)
	one := line(1, 100, "std")
	c.is(cLevy("std", day(2000, 1, 1), 1900), api.Reply{})
	c.is(cOpen("a", 2), api.Reply{})
	c.is(cPost("a", today(), one), told(1, 119))
	stays(t, c.s, by(1, c.seq, cPost("a", today(), one)), told(1, 119))
	c.is(cPost("a", today(), one), told(2, 119))
	c.is(cPost("a", today(), one), why(api.ErrFull))
	c.is(cOpen("b", 9), api.Reply{})
	c.is(cCredit("b", today(), "a", 1), told(1, -119))
	c.is(cCredit("b", today(), "a", 1), why(api.ErrTaken))
	c.is(cAsk("b"), told(1, 119))
	part := api.Part{Category: "std", Bp: 1900, Net: 100, Tax: 19}
	back := api.Part{Category: "std", Bp: 1900, Net: -100, Tax: -19}
	want := api.State{
		Table:  []api.Rate{{Category: "std", From: day(2000, 1, 1), Bp: 1900}},
		Series: []api.Series{{Name: "a", Next: 3, Limit: 2}, {Name: "b", Next: 2, Limit: 9}},
		Posted: []api.Posted{
			{Ref: ref("a", 1), Day: today(), Total: api.Total{Net: 100, Tax: 19, Gross: 119, Parts: []api.Part{part}}, Back: true},
			{Ref: ref("a", 2), Day: today(), Total: api.Total{Net: 100, Tax: 19, Gross: 119, Parts: []api.Part{part}}},
			{Ref: ref("b", 1), Day: today(), Total: api.Total{Net: -100, Tax: -19, Gross: -119, Parts: []api.Part{back}}, Of: ref("a", 1)},
		},
		Book:     []api.Balance{{Account: "net/std", Amount: -100}, {Account: "owed", Amount: 119}, {Account: "tax/std", Amount: -19}},
		Sessions: []api.Session{{Id: 1, Last: 9, Reply: told(1, 119)}},
		Next:     2,
	}
	if !alike(c.s, want) {
		t.Errorf("%v, not %v", c.s, want)
	}
}

// P14.2, P14.3: each Kind from a new state with one session, and from one with several of all, told field by field.
func TestEachKindFromNew(t *testing.T) {
	first := begin(t).s
	row := api.Rate{Category: "std", From: today(), Bp: 1900}
	tests := []struct {
		cmd  api.Cmd
		want api.Reply
		turn func(s *api.State)
	}{
		{cOpen("a", 5), api.Reply{}, func(s *api.State) { s.Series = []api.Series{{Name: "a", Next: 1, Limit: 5}} }},
		{cShut("a"), why(api.ErrNone), nil},
		{cLevy("std", today(), 1900), api.Reply{}, func(s *api.State) { s.Table = []api.Rate{row} }},
		{cPost("a", today(), line(1, 1, "std")), why(api.ErrRate), nil},
		{cCredit("a", today(), "a", 1), why(api.ErrNone), nil},
		{cLeave(2), why(api.ErrNone), nil},
		{cAsk("a"), why(api.ErrNone), nil},
	}
	for _, x := range tests {
		want := twin(first)
		want.Sessions[0] = api.Session{Id: 1, Last: 1, Reply: x.want}
		if x.turn != nil {
			x.turn(&want)
		}
		if got, r := Apply(first, by(1, 1, x.cmd)); r != x.want || !alike(got, want) {
			t.Errorf("%v: %v, %v", x.cmd, got, r)
		}
	}
	stays(t, New(), by(1, 1, cOpen("a", 5)), why(api.ErrGone))
	if got, r := Apply(first, by(1, 1, cLeave(1))); r != (api.Reply{}) || !alike(got, api.State{Next: 2}) {
		t.Error(got, r)
	}
}

func TestEachKindFromMany(t *testing.T) {
	if !Right(some()) {
		t.Fatal("some isn't right")
	}
	tests := []struct {
		cmd  api.Cmd
		want api.Reply
		turn func(s *api.State)
	}{
		{cOpen("aa", 7), api.Reply{}, func(s *api.State) {
			s.Series = slices.Insert(s.Series, 1, api.Series{Name: "aa", Next: 1, Limit: 7})
		}},
		{cShut("a"), api.Reply{}, func(s *api.State) { s.Series[0].Shut = true }},
		{cLevy("food", day(2010, 1, 1), 600), api.Reply{}, func(s *api.State) {
			s.Table = slices.Insert(s.Table, 1, api.Rate{Category: "food", From: day(2010, 1, 1), Bp: 600})
		}},
		{cPost("d", day(2019, 12, 31), line(2, 100, "std"), line(1, 100, "food")), told(1, 345), func(s *api.State) {
			s.Series[3].Next = 2
			s.Posted = append(s.Posted, api.Posted{Ref: ref("d", 1), Day: day(2019, 12, 31), Total: api.Total{Net: 300, Tax: 45, Gross: 345, Parts: []api.Part{{Category: "food", Bp: 700, Net: 100, Tax: 7}, {Category: "std", Bp: 1900, Net: 200, Tax: 38}}}})
			s.Book = []api.Balance{{Account: "net/food", Amount: -400}, {Account: "net/std", Amount: -250}, {Account: "owed", Amount: 719}, {Account: "tax/food", Amount: -22}, {Account: "tax/std", Amount: -47}}
		}},
		{cCredit("a", day(2026, 11, 16), "b", 1), told(3, -434), func(s *api.State) {
			s.Series[0].Next, s.Posted[1].Back = 4, true
			s.Posted = append(s.Posted, api.Posted{Ref: ref("a", 3), Day: day(2026, 11, 16), Of: ref("b", 1), Total: api.Total{Net: -400, Tax: -34, Gross: -434, Parts: []api.Part{{Category: "food", Bp: 500, Net: -300, Tax: -15}, {Category: "std", Bp: 1900, Net: -100, Tax: -19}}}})
			s.Book = []api.Balance{{Account: "net/food"}, {Account: "net/std", Amount: 50}, {Account: "owed", Amount: -60}, {Account: "tax/food"}, {Account: "tax/std", Amount: 10}}
		}},
		{cLeave(2), api.Reply{}, func(s *api.State) { s.Sessions = slices.Delete(s.Sessions, 1, 2) }},
		{cAsk("a"), told(2, 374), func(s *api.State) {}},
		{cAsk("b"), told(1, 374), func(s *api.State) {}},
		{cAsk("c"), told(1, 374), func(s *api.State) {}},
		{cAsk("d"), told(0, 374), func(s *api.State) {}},
	}
	for _, x := range tests {
		want := some()
		want.Sessions[0] = api.Session{Id: 1, Last: 3, Reply: x.want}
		x.turn(&want)
		if got, r := Apply(some(), by(1, 3, x.cmd)); r != x.want || !alike(got, want) || !Right(got) {
			t.Errorf("%v: %v, %v", x.cmd, got, r)
		}
	}
	want := some()
	want.Sessions, want.Next = append(want.Sessions, api.Session{Id: 6}), 7
	if got, r := Apply(some(), by(2, 5, cJoin())); r != told(6, 0) || !alike(got, want) {
		t.Error(got, r)
	}
}

// TestJoinAsksNoSession: whatever Session and Seq say, and all fields of the Cmd beside its Kind.
func TestJoinAsksNoSession(t *testing.T) {
	for _, id := range []int{far, -1, 0, 1, 2, 3, 6, cap40, most} {
		for _, seq := range []int{far, -1, 0, 1, 5, cap40, cap40 + 1, most} {
			got, r := Apply(some(), by(id, seq, noisy(api.CJoin)))
			want := some()
			want.Sessions, want.Next = append(want.Sessions, api.Session{Id: 6}), 7
			if r != told(6, 0) || !alike(got, want) {
				t.Fatal(id, seq, got, r)
			}
		}
	}
}

func TestSessionsAreFull(t *testing.T) {
	s := New()
	for i := range eight {
		x, r := Apply(s, by(0, 0, cJoin()))
		if r != told(i+1, 0) || len(x.Sessions) != i+1 || x.Sessions[i] != (api.Session{Id: i + 1}) || x.Next != i+2 {
			t.Fatal(x, r)
		}
		s = x
	}
	stays(t, s, by(0, 0, cJoin()), why(api.ErrFull))
	stays(t, s, by(1, 1, cJoin()), why(api.ErrFull))
	s, _ = checked(t, s, by(3, 1, cLeave(5)))
	s, r := checked(t, s, by(0, 0, cJoin()))
	if ids := idsOf(s); r != told(9, 0) || !slices.Equal(ids, []int{1, 2, 3, 4, 6, 7, 8, 9}) {
		t.Error(ids, r)
	}
}

func idsOf(s api.State) []int {
	var l []int
	for _, x := range s.Sessions {
		l = append(l, x.Id)
	}
	return l
}

func TestTheLastSession(t *testing.T) {
	near := some()
	near.Next = cap40 - 1
	s, r := Apply(near, by(0, 0, cJoin()))
	if r != told(cap40-1, 0) || s.Next != cap40 || s.Sessions[4].Id != cap40-1 || !Right(s) {
		t.Fatal(s, r)
	}
	stays(t, s, by(0, 0, cJoin()), why(api.ErrFull))
	stays(t, api.State{Next: cap40}, by(0, 0, cJoin()), why(api.ErrFull))
	checked(t, s, by(cap40-1, 1, cOpen("z", 1)))
	stays(t, s, by(cap40, 1, cOpen("z", 1)), why(api.ErrGone))
}

func TestSeqs(t *testing.T) {
	c := cOpen("z", 1)
	for seq, e := range map[int]api.Errno{far: api.ErrArg, -1: api.ErrArg, 0: api.ErrArg, 1: api.ErrStale, 4: api.ErrStale, cap40 + 1: api.ErrArg, most: api.ErrArg} {
		stays(t, some(), by(2, seq, c), why(e))
	}
	stays(t, some(), by(2, 5, c), told(1, 119))
	stays(t, some(), by(4, 7, c), why(api.ErrTaken))
	stays(t, some(), by(5, cap40, c), api.Reply{})
	stays(t, some(), by(5, cap40-1, c), why(api.ErrStale))
	for _, seq := range []int{6, 7, 100, cap40 - 1, cap40} {
		s, r := checked(t, some(), by(2, seq, c))
		if r != (api.Reply{}) || s.Sessions[1] != (api.Session{Id: 2, Last: seq}) || len(s.Series) != 5 {
			t.Error(seq, s, r)
		}
	}
	for _, seq := range []int{1, 2, cap40} {
		if s, r := checked(t, some(), by(1, seq, c)); r != (api.Reply{}) || s.Sessions[0].Last != seq {
			t.Error(seq, s, r)
		}
	}
	for _, seq := range []int{0, cap40 + 1} {
		stays(t, some(), by(1, seq, c), why(api.ErrArg))
	}
}

// TestSessionsThatAreNotThere: ones that left, that are still to come, and that can't be, whatever their numbers are.
func TestSessionsThatAreNotThere(t *testing.T) {
	for _, id := range []int{far, -1, 0, 3, 6, 7, cap40, most} {
		for _, seq := range []int{far, 0, 1, 5, cap40, cap40 + 1} {
			for kind := 1; kind <= 8; kind++ {
				if kind != api.CJoin {
					stays(t, some(), by(id, seq, noisy(kind)), why(api.ErrGone))
				}
			}
		}
	}
}

func TestKindsThatAreNone(t *testing.T) {
	for _, kind := range []int{far, -1, 0, 9, 10, 1 << 32, 1<<32 + 1, most} {
		c := noisy(kind)
		stays(t, some(), by(1, 1, c), why(api.ErrKind))
		stays(t, some(), by(2, 5, c), why(api.ErrKind))
		stays(t, some(), by(9, 0, c), why(api.ErrKind))
		stays(t, New(), api.Call{Cmd: c}, why(api.ErrKind))
	}
}

// noisy is a command of that Kind with something in all its fields: what it would be, if other Kinds' fields mattered, is seen.
func noisy(kind int) api.Cmd {
	return api.Cmd{Kind: kind, Series: "a", Limit: 5, Row: api.Rate{Category: "rent", From: today(), Bp: 5}, Day: day(2026, 11, 17), Lines: []api.Line{line(1, 100, "std")}, Of: ref("b", 1), Session: 2}
}

// bareOf is the command with the fields of its Kind alone.
func bareOf(c api.Cmd) api.Cmd {
	switch c.Kind {
	case api.COpen:
		return cOpen(c.Series, c.Limit)
	case api.CShut:
		return cShut(c.Series)
	case api.CLevy:
		return cLevy(c.Row.Category, c.Row.From, c.Row.Bp)
	case api.CPost:
		return cPost(c.Series, c.Day, c.Lines...)
	case api.CCredit:
		return cCredit(c.Series, c.Day, c.Of.Series, c.Of.Number)
	case api.CLeave:
		return cLeave(c.Session)
	case api.CAsk:
		return cAsk(c.Series)
	}
	return api.Cmd{Kind: c.Kind}
}

func TestOtherFieldsDoNotMatter(t *testing.T) {
	rubbish := api.Cmd{Series: "7 \xff", Limit: far, Row: api.Rate{Category: "\xc3", From: day(far, most, 0), Bp: most}, Day: day(0, 0, 0), Lines: slices.Repeat([]api.Line{{Text: strings.Repeat("x", 99), Count: far, Price: most}}, 50), Of: ref("", far), Session: far}
	for kind := 1; kind <= 8; kind++ {
		full := noisy(kind)
		if kind == api.COpen {
			full.Series = "new"
		}
		bare := bareOf(full)
		want, reply := checked(t, some(), by(1, 1, bare))
		if reply.Why != api.OK {
			t.Fatal(kind, reply)
		}
		mixed := bare
		if kind != api.COpen {
			mixed.Limit = rubbish.Limit
		}
		if kind != api.CLevy {
			mixed.Row = rubbish.Row
		}
		if kind != api.CPost {
			mixed.Lines = rubbish.Lines
		}
		if kind != api.CCredit {
			mixed.Of = rubbish.Of
		}
		if kind != api.CLeave {
			mixed.Session = rubbish.Session
		}
		if kind != api.CPost && kind != api.CCredit {
			mixed.Day = rubbish.Day
		}
		if kind == api.CLevy || kind == api.CLeave || kind == api.CJoin {
			mixed.Series = rubbish.Series
		}
		for _, c := range []api.Cmd{full, mixed} {
			if got, r := Apply(some(), by(1, 1, c)); r != reply || !alike(got, want) {
				t.Errorf("%v: %v, %v", c, got, r)
			}
		}
	}
}

func TestLeaving(t *testing.T) {
	s, r := Apply(some(), by(2, 6, cLeave(2)))
	if ids := idsOf(s); r != (api.Reply{}) || !slices.Equal(ids, []int{1, 4, 5}) || s.Next != 6 {
		t.Fatal(s, r)
	}
	stays(t, s, by(2, 6, cLeave(2)), why(api.ErrGone))
	stays(t, s, by(2, 7, cOpen("z", 1)), why(api.ErrGone))
	s, r = Apply(some(), by(2, 6, cLeave(4)))
	if ids := idsOf(s); r != (api.Reply{}) || !slices.Equal(ids, []int{1, 2, 5}) || s.Sessions[1] != (api.Session{Id: 2, Last: 6}) {
		t.Fatal(s, r)
	}
	stays(t, s, by(4, 8, cOpen("z", 1)), why(api.ErrGone))
	stays(t, s, by(4, 7, cOpen("z", 1)), why(api.ErrGone))
	stays(t, s, by(2, 6, cLeave(5)), api.Reply{})
	for _, id := range []int{far, -1, 0, 3, 6, cap40, most} {
		remembers(t, some(), cLeave(id), api.ErrNone)
	}
	// who comes behind has an Id of its own
	s, r = Apply(s, by(0, 0, cJoin()))
	if r != told(6, 0) || !slices.Equal(idsOf(s), []int{1, 2, 5, 6}) {
		t.Error(s, r)
	}
}

// TestARefusalIsKept: what is done and refused is told again for its number, though it would be taken by now.
func TestARefusalIsKept(t *testing.T) {
	c := begin(t)
	refused := []struct {
		cmd api.Cmd
		e   api.Errno
	}{
		{cOpen("7", 1), api.ErrName}, {cOpen("a", 0), api.ErrArg}, {cShut("a"), api.ErrNone}, {cLevy("std", day(2000, 2, 30), 1), api.ErrDate}, {cLevy("std", today(), -1), api.ErrRate}, {cPost("a", today()), api.ErrArg}, {cPost("a", today(), line(1, 1, "std")), api.ErrRate}, {cCredit("a", today(), "a", 1), api.ErrNone}, {cLeave(9), api.ErrNone}, {cAsk("a"), api.ErrNone},
	}
	for _, x := range refused {
		c.is(x.cmd, why(x.e))
		if c.s.Sessions[0] != (api.Session{Id: 1, Last: c.seq, Reply: why(x.e)}) {
			t.Fatal(c.s.Sessions)
		}
		other, _ := Apply(c.s, by(0, 0, cJoin()))
		other, _ = Apply(other, by(2, 1, cOpen("a", 1)))
		stays(t, other, by(1, c.seq, x.cmd), why(x.e))
		stays(t, other, by(1, c.seq, cOpen("b", 1)), why(x.e))
	}
}

// TestTheOldReply: the latest number is answered by the old reply, whatever is asked for with it.
func TestTheOldReply(t *testing.T) {
	c := ready(t)
	c.is(cOpen("a", 5), api.Reply{})
	c.is(cPost("a", today(), line(1, 100, "std")), told(1, 119))
	for kind := 1; kind <= 8; kind++ {
		if kind != api.CJoin {
			stays(t, c.s, by(1, c.seq, noisy(kind)), told(1, 119))
			stays(t, c.s, by(1, c.seq-1, noisy(kind)), why(api.ErrStale))
		}
	}
	c.is(cAsk("a"), told(1, 119))
	c.is(cPost("a", today(), line(1, 100, "std")), told(2, 119))
	stays(t, c.s, by(1, c.seq-1, cAsk("a")), why(api.ErrStale))
}

// P14.2: Play

func TestPlayAppliesOneBehindTheOther(t *testing.T) {
	calls := []api.Call{by(-3, -3, cJoin()), by(1, 1, cLevy("std", today(), 1900)), by(1, 2, cOpen("a", 9)), by(1, 3, cPost("a", today(), line(1, 100, "std"))), by(1, 3, cPost("a", today(), line(1, 100, "std"))), by(1, 2, cShut("a")), by(2, 1, cShut("a")), by(1, 9, api.Cmd{}), by(0, 0, cJoin()), by(2, 1, cLeave(1)), by(1, 4, cAsk("a")), by(2, 2, cAsk("a"))}
	want := []api.Reply{told(1, 0), {}, {}, told(1, 119), told(1, 119), why(api.ErrStale), why(api.ErrGone), why(api.ErrKind), told(2, 0), {}, why(api.ErrGone), told(1, 119)}
	s, replies := Play(New(), calls...)
	if !slices.Equal(replies, want) {
		t.Error(replies)
	}
	one := New()
	for i, c := range calls {
		x, r := checked(t, one, c)
		if r != want[i] {
			t.Error(i, r)
		}
		one = x
	}
	if !alike(s, one) {
		t.Error(s, one)
	}
}

func TestPlayNothing(t *testing.T) {
	wrong := api.State{Next: -4, Posted: []api.Posted{{Total: api.Total{Parts: []api.Part{{Category: "\xff"}}}}, {}}, Book: []api.Balance{{}, {}}}
	for _, s := range []api.State{{}, New(), some(), wrong} {
		for _, l := range [][]api.Call{nil, {}} {
			if got, replies := Play(s, l...); !reflect.DeepEqual(got, s) || len(replies) != 0 {
				t.Error(got, replies)
			}
		}
	}
}

// TestPlayOfWhatIsNotRight: each call is refused, though what it asks for would make the state right.
func TestPlayOfWhatIsNotRight(t *testing.T) {
	s := some()
	s.Series = slices.Insert(s.Series, 0, api.Series{Name: "7", Next: 1, Limit: 1})
	got, replies := Play(s, by(0, 0, cJoin()), by(1, 1, cShut("7")), api.Call{}, by(9, 9, cAsk("a")))
	if !reflect.DeepEqual(got, s) || !slices.Equal(replies, slices.Repeat([]api.Reply{why(api.ErrArg)}, 4)) {
		t.Error(got, replies)
	}
}

// TestLongPlaysEnd: the number of calls costs no more than their number, whether the state is right or not.
func TestLongPlaysEnd(t *testing.T) {
	calls := slices.Repeat([]api.Call{by(1, 3, cAsk("a")), by(1, 2, cAsk("a")), by(0, 0, api.Cmd{})}, 60000)
	long := some()
	long.Posted = slices.Repeat(long.Posted, 5000)
	for _, s := range []api.State{some(), long} {
		if _, replies := Play(s, calls...); len(replies) != len(calls) {
			t.Error(len(replies))
		}
	}
}
