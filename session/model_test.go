package session

import (
	"math"
	"math/rand"
	"slices"

	"impost/api"
)

const (
	most = math.MaxInt
	far  = math.MinInt
	// cap40 and eight are the chapter's limits, written out so that a limit that slips is seen.
	cap40 = 1099511627776
	eight = 8
)

// kept is a session with a number and a reply of its own.
func kept(id, last int) api.Session {
	return api.Session{Id: id, Last: last, Reply: reply(id + last)}
}

// fresher is a session as it comes, written out field by field.
func fresher(id int) api.Session {
	return api.Session{Id: id, Last: 0, Reply: api.Reply{Why: 0, Number: 0, Gross: 0}}
}

// reply is one without a field that is zero.
func reply(n int) api.Reply {
	return api.Reply{Why: api.ErrFull, Number: n | 1, Gross: -n | 1}
}

// some is a right list: sessions that are fresh, that have a number, the least and the greatest, with a reply and without.
func some() []api.Session {
	return []api.Session{fresher(2), kept(3, 5), kept(7, 1), {Id: 9, Last: 4}, kept(12, cap40), fresher(most - 1)}
}

// many is a right list of n sessions, whose Ids are 10, 20, 30 and so on.
func many(n int) []api.Session {
	var l []api.Session
	for i := range n {
		l = append(l, kept(10*(i+1), i+1))
	}
	return l
}

// of is a list of these.
func of(l ...api.Session) []api.Session { return l }

// roomy is l with spare room that has sessions in it.
func roomy(l []api.Session) []api.Session {
	out := append(make([]api.Session, 0, len(l)+5), l...)
	for i := len(l); i < cap(out); i++ {
		out[:cap(out)][i] = kept(most-cap(out)+i, i+1)
	}
	return out
}

// whole is a copy of l with its spare room.
func whole(l []api.Session) []api.Session { return slices.Clone(l[:cap(l)]) }

// spoil writes over l and its spare room.
func spoil(l []api.Session) {
	for i := range l[:cap(l)] {
		l[:cap(l)][i] = api.Session{Id: -7, Last: -7, Reply: api.Reply{Why: -7, Number: -7, Gross: -7}}
	}
}

// faults are sessions that no list may have, but for their Id, which is 2.
func faults() map[string]api.Session {
	return map[string]api.Session{
		"a Last below 0":              {Id: 2, Last: -1},
		"a Last below 0, and a reply": kept(2, -1),
		"the least Last":              kept(2, far),
		"a Last above MaxSeq":         kept(2, cap40+1),
		"far above MaxSeq":            {Id: 2, Last: 1 << 48},
		"the greatest Last":           {Id: 2, Last: most},
		"no Last, a Why":              {Id: 2, Reply: api.Reply{Why: api.ErrArg}},
		"no Last, a Why below 0":      {Id: 2, Reply: api.Reply{Why: -1}},
		"no Last, a Number":           {Id: 2, Reply: api.Reply{Number: 1}},
		"no Last, the least Number":   {Id: 2, Reply: api.Reply{Number: far}},
		"no Last, a Gross":            {Id: 2, Reply: api.Reply{Gross: 1}},
		"no Last, a Gross below 0":    {Id: 2, Reply: api.Reply{Gross: -1}},
		"no Last, a whole reply":      {Id: 2, Reply: reply(2)},
	}
}

// wrongLists are lists that aren't right, each for one reason. None has the Id 5.
func wrongLists() map[string][]api.Session {
	l := some()
	lists := map[string][]api.Session{
		"the first two the other way round": of(l[1], l[0], l[2]),
		"the last two the other way round":  of(l[0], l[2], l[1]),
		"falling":                           of(kept(3, 1), kept(2, 1), kept(1, 1)),
		"the first one twice":               of(l[0], l[0], l[1]),
		"the last one twice":                of(l[0], l[1], l[1]),
		"one Id, two numbers":               of(kept(2, 1), kept(2, 2)),
		"twice, far from each other":        of(l[0], l[1], l[2], l[0]),
		"an Id of 0":                        of(fresher(0)),
		"an Id of 0, ahead of others":       of(kept(0, 1), kept(1, 1)),
		"an Id of 0, behind another":        of(kept(1, 1), kept(0, 1)),
		"an Id below 0":                     of(fresher(-1), kept(1, 1)),
		"the least Id":                      of(fresher(far)),
		"the least Id behind the greatest":  of(fresher(most), fresher(far)),
		"two Ids below 0, rising":           of(fresher(-2), fresher(-1)),
		"the greatest Id twice":             of(fresher(most), fresher(most)),
		"one too many":                      many(9),
		"many too many":                     many(70),
		"too many, the last out of order":   append(many(8), fresher(1)),
		"too many, none of them right":      slices.Repeat(of(api.Session{}), 9),
	}
	for why, bad := range faults() {
		lists[why] = of(bad)
		for at, id := range []int{2, 3, 7} {
			m := of(kept(2, 1), kept(3, 5), fresher(7))
			m[at] = bad
			m[at].Id = id
			lists[why+", session "+string(rune('0'+at))] = m
		}
	}
	return lists
}

// isRight is the chapter's sentence, asked of each pair.
func isRight(l []api.Session) bool {
	for i, s := range l {
		for _, o := range l[i+1:] {
			if s.Id >= o.Id {
				return false
			}
		}
		r := s.Reply
		if s.Id < 1 || s.Last < 0 || s.Last > cap40 || s.Last == 0 && (r.Why != 0 || r.Number != 0 || r.Gross != 0) {
			return false
		}
	}
	return len(l) <= eight
}

// at is where l has that Id, -1 if it hasn't.
func at(l []api.Session, id int) int {
	return slices.IndexFunc(l, func(s api.Session) bool { return s.Id == id })
}

// wantJoin is what the chapter says of Join, put in order as a whole.
func wantJoin(l []api.Session, id int) ([]api.Session, api.Errno) {
	if !isRight(l) || id < 1 {
		return nil, api.ErrArg
	}
	if at(l, id) >= 0 {
		return nil, api.ErrTaken
	}
	if len(l) == eight {
		return nil, api.ErrFull
	}
	out := append(slices.Clone(l), fresher(id))
	slices.SortFunc(out, func(a, b api.Session) int {
		if a.Id < b.Id {
			return -1
		}
		return 1
	})
	return out, api.OK
}

// wantLeave is what the chapter says of Leave.
func wantLeave(l []api.Session, id int) ([]api.Session, api.Errno) {
	if !isRight(l) {
		return nil, api.ErrArg
	}
	if at(l, id) < 0 {
		return nil, api.ErrNone
	}
	return slices.DeleteFunc(slices.Clone(l), func(s api.Session) bool { return s.Id == id }), api.OK
}

// wantLook is what the chapter says of Look.
func wantLook(l []api.Session, id, seq int) (api.Reply, bool, api.Errno) {
	none := api.Reply{}
	if !isRight(l) {
		return none, false, api.ErrArg
	}
	i := at(l, id)
	if i < 0 {
		return none, false, api.ErrGone
	}
	if seq < 1 || seq > cap40 {
		return none, false, api.ErrArg
	}
	if l[i].Last == seq {
		return l[i].Reply, true, api.OK
	}
	if l[i].Last > seq {
		return none, false, api.ErrStale
	}
	return none, false, api.OK
}

// wantKeep is what the chapter says of Keep.
func wantKeep(l []api.Session, id, seq int, r api.Reply) ([]api.Session, api.Errno) {
	_, old, e := wantLook(l, id, seq)
	if e != api.OK {
		return nil, e
	}
	if old {
		return nil, api.ErrTaken
	}
	out := slices.Clone(l)
	out[at(l, id)].Last = seq
	out[at(l, id)].Reply = r
	return out, api.OK
}

// drawnNumber is one of few, so that they meet, or near to an edge, or any.
func drawnNumber(draw *rand.Rand) int {
	if draw.Intn(12) == 0 {
		return int(draw.Uint64())
	}
	edges := []int{far, -1, 0, 1, 2, 3, 4, 5, 6, 7, 8, 9, 10, 11, 12, cap40 - 1, cap40, cap40 + 1, most}
	return edges[draw.Intn(len(edges))]
}

// drawnReply is any, the zero one too.
func drawnReply(draw *rand.Rand) api.Reply {
	if draw.Intn(4) == 0 {
		return api.Reply{}
	}
	return api.Reply{Why: api.Errno(draw.Intn(20)), Number: drawnNumber(draw), Gross: drawnNumber(draw)}
}

// drawnList is a right one, of at most MaxSessions.
func drawnList(draw *rand.Rand) []api.Session {
	var l []api.Session
	for range draw.Intn(24) {
		if m, e := wantJoin(l, drawnNumber(draw)); e == api.OK {
			l = m
		}
	}
	for i := range l {
		if m, e := wantKeep(l, l[i].Id, drawnNumber(draw), drawnReply(draw)); e == api.OK {
			l = m
		}
	}
	return l
}

// spoilt is l, with up to two sessions that are drawn field by field.
func spoilt(draw *rand.Rand, l []api.Session) []api.Session {
	for range draw.Intn(3) {
		if len(l) > 0 {
			l[draw.Intn(len(l))] = api.Session{Id: drawnNumber(draw), Last: drawnNumber(draw), Reply: drawnReply(draw)}
		}
	}
	return l
}

// drawnId is mostly one that l has.
func drawnId(draw *rand.Rand, l []api.Session) int {
	if len(l) > 0 && draw.Intn(4) > 0 {
		return l[draw.Intn(len(l))].Id
	}
	return drawnNumber(draw)
}

// drawnSeq is often near to the Last of l's session of that Id.
func drawnSeq(draw *rand.Rand, l []api.Session, id int) int {
	if i := at(l, id); i >= 0 && draw.Intn(2) == 0 {
		return l[i].Last + draw.Intn(3) - 1
	}
	return drawnNumber(draw)
}
