package series

import (
	"math"
	"math/rand"
	"slices"
	"strings"

	"impost/api"
	"impost/sign"
)

const (
	most = math.MaxInt
	far  = math.MinInt
	// cap40 and eight are the chapter's limits, written out so that a limit that slips is seen.
	cap40 = 1099511627776
	eight = 8
)

func one(name string, next, limit int) api.Series {
	return api.Series{Name: name, Next: next, Limit: limit}
}

func shut(s api.Series) api.Series {
	s.Shut = true
	return s
}

// some is a right list with a series that is fresh, one in use, one used up and one shut.
func some() []api.Series {
	return []api.Series{one("a", 1, 9), one("b", 3, 5), one("d", 3, 2), shut(one("e", 2, 7)), one("g", cap40, cap40)}
}

// many is a right list of n series.
func many(n int) []api.Series {
	var l []api.Series
	for i := range n {
		l = append(l, one("s"+string(rune('a'+i/26))+string(rune('a'+i%26)), i%3+1, i+3))
	}
	return l
}

// roomy is l with spare room that has something in it.
func roomy(l []api.Series) []api.Series {
	out := append(make([]api.Series, 0, len(l)+5), l...)
	for i := len(l); i < cap(out); i++ {
		out[:cap(out)][i] = one("spare", 1, i+1)
	}
	return out
}

// whole is a copy of l with its spare room.
func whole(l []api.Series) []api.Series { return slices.Clone(l[:cap(l)]) }

// nameless are texts that are no names.
func nameless() []string {
	return []string{"", " ", "7", "7a", "-a", ".a", "_a", "a b", "a\x00", "\x00", "a ", " a", "a\xff", "\xff", "\xc3", "a\xc3", "\u00d7", "a\u00f7", "a\u0663", "\ufffd", "a/b", "a,b", "\u0250", strings.Repeat("a", 25), strings.Repeat("\u00fc", 12) + "a", strings.Repeat("a", 5000)}
}

// named are names, in the order of their bytes.
func named() []string {
	return []string{"A", "B", "Rent", "Z", "a", "a-", "a-a", "a.", "a0", "a9", "aA", "a_", "aa", "aaa", strings.Repeat("a", 23), strings.Repeat("a", 24), "ab", "a\u00e4", "b", "rent", "rents", "z", "\u00c0", "\u00c4", "\u00d6", "\u00d8", "\u00e4", "\u00fc", "\u0100", "\u024f"}
}

// wrongLists are lists that aren't right, each for one reason. None has a series with the name "new".
func wrongLists() map[string][]api.Series {
	l := some()
	lists := map[string][]api.Series{
		"the first two the other way round": {l[1], l[0], l[2]},
		"the last two the other way round":  {l[0], l[2], l[1]},
		"the first one twice":               {l[0], l[0], l[1]},
		"the last one twice":                {l[0], l[1], l[1]},
		"twice, far from each other":        {l[0], l[1], l[2], l[0]},
		"twice, shut and not":               {l[0], shut(l[0])},
		"twice, with other numbers":         {l[0], one("a", 2, 20)},
		"a beginning behind":                {one("ab", 1, 1), one("a", 1, 1)},
		"small letters ahead of capitals":   {one("a", 1, 1), one("B", 1, 1)},
		"one too many":                      many(9),
		"many too many":                     many(70),
		"too many, and out of order":        append(many(8), l[0]),
	}
	for i, bad := range []api.Series{{}, one("7a", 1, 1), one("c", 0, 1), one("c", 3, 1), one("c", 1, 0), one("c", 1, -1), one("c", 1, cap40+1), one("c", cap40+2, cap40), shut(one("c", -1, 5)), one("c", most, most), one("c", far, far), one("c", far, most), one("c", most, 1), one("c", 1, most)} {
		for at := range 3 {
			l := []api.Series{one("b", 1, 1), one("c", 1, 1), one("d", 1, 1)}
			l[at] = bad
			if bad.Name == "c" {
				l[at].Name = string(rune('b' + at))
			}
			lists["series "+string(rune('0'+at))+" has fault "+string(rune('a'+i))] = l
		}
	}
	return lists
}

// isRight is the chapter's sentence, asked of each pair, without a sum.
func isRight(l []api.Series) bool {
	for i, s := range l {
		for _, o := range l[i+1:] {
			if strings.Compare(s.Name, o.Name) >= 0 {
				return false
			}
		}
		if !sign.Name(s.Name) || s.Limit <= 0 || s.Limit > cap40 || s.Next <= 0 || s.Next-1 > s.Limit {
			return false
		}
	}
	return len(l) <= eight
}

// at is where l has that name, gone through from behind, so that the last that is met is the first one.
func at(l []api.Series, name string) int {
	found := -1
	for i := len(l) - 1; i >= 0; i-- {
		if l[i].Name == name {
			found = i
		}
	}
	return found
}

// wantOpen is what the chapter says of Open, put in order as a whole.
func wantOpen(l []api.Series, name string, limit int) ([]api.Series, api.Errno) {
	if !isRight(l) {
		return nil, api.ErrArg
	}
	if !sign.Name(name) {
		return nil, api.ErrName
	}
	if limit < 1 || limit > cap40 {
		return nil, api.ErrArg
	}
	if at(l, name) >= 0 {
		return nil, api.ErrTaken
	}
	if len(l) == eight {
		return nil, api.ErrFull
	}
	out := append(slices.Clone(l), one(name, 1, limit))
	slices.SortFunc(out, func(a, b api.Series) int { return strings.Compare(a.Name, b.Name) })
	return out, api.OK
}

// wantShut is what the chapter says of Shut.
func wantShut(l []api.Series, name string) ([]api.Series, api.Errno) {
	i := at(l, name)
	if !isRight(l) {
		return nil, api.ErrArg
	}
	if i < 0 {
		return nil, api.ErrNone
	}
	if l[i].Shut {
		return nil, api.ErrShut
	}
	out := slices.Clone(l)
	out[i] = shut(out[i])
	return out, api.OK
}

// wantTake is what the chapter says of Take.
func wantTake(l []api.Series, name string) ([]api.Series, int, api.Errno) {
	if _, e := wantShut(l, name); e != api.OK {
		return nil, 0, e
	}
	i := at(l, name)
	if l[i].Next > l[i].Limit {
		return nil, 0, api.ErrFull
	}
	out := slices.Clone(l)
	out[i] = one(name, out[i].Next+1, out[i].Limit)
	return out, l[i].Next, api.OK
}

// drawnName is one of few, so that names meet; some are none.
func drawnName(draw *rand.Rand) string {
	names := []string{"a", "A", "aa", "ab", "b", "rent", "rents", "Rent", "c", "z", "\u00c4", "\u00fc", "", "7", "a\xff"}
	return names[draw.Intn(len(names))]
}

// drawnNumber is near to an edge, or any.
func drawnNumber(draw *rand.Rand) int {
	if draw.Intn(4) == 0 {
		return int(draw.Uint64())
	}
	edges := []int{far, -1, 0, 1, 1, 2, 2, 3, 3, 4, cap40 - 1, cap40, cap40 + 1, cap40 + 2, most}
	return edges[draw.Intn(len(edges))]
}

// drawnList is a right one, of at most MaxSeries.
func drawnList(draw *rand.Rand) []api.Series {
	var l []api.Series
	for range draw.Intn(24) {
		m, e := wantOpen(l, drawnName(draw), []int{1, 2, 3, cap40}[draw.Intn(4)])
		if e == api.OK {
			l = m
		}
	}
	for i := range l {
		l[i].Next = 1 + min(draw.Intn(4), l[i].Limit)
		l[i].Shut = draw.Intn(4) == 0
	}
	return l
}

// spoilt is l, with up to two series that are drawn field by field.
func spoilt(draw *rand.Rand, l []api.Series) []api.Series {
	for range draw.Intn(3) {
		if len(l) > 0 {
			l[draw.Intn(len(l))] = api.Series{Name: drawnName(draw), Next: drawnNumber(draw), Limit: drawnNumber(draw), Shut: draw.Intn(2) == 0}
		}
	}
	return l
}
