package letter

import (
	"impost/api"
	"impost/wal"
)

// everyone is the set of all nodes that there may be.
const everyone = 1<<api.MaxNodes - 1

// Right tells whether a node may write m to another one.
func Right(m api.Letter) bool {
	return headed(m) && all(m) == named(m) && fits(m)
}

// headed tells whether the numbers whose bounds are the same for each kind are within these.
func headed(m api.Letter) bool {
	return within(m.From, 0, api.MaxNodes-1) &&
		within(m.To, 0, api.MaxNodes-1) &&
		m.From != m.To &&
		within(m.Term, 1, api.MaxTerm) &&
		within(m.Index, 0, api.MaxIndex) &&
		within(m.At, 0, m.Term) &&
		within(m.Commit, 0, api.MaxIndex)
}

// content is what a letter says that not each kind has, as a thing that can be held against another by ==: of the entries, how many there are.
type content struct {
	index, at, commit  int
	members, off, size int
	yes                bool
	data               string
	entries            int
}

// all is m's content.
func all(m api.Letter) content {
	return content{
		index: m.Index, at: m.At, commit: m.Commit,
		members: m.Members, off: m.Off, size: m.Size,
		yes: m.Yes, data: m.Data, entries: len(m.Entries),
	}
}

// named is what m's content would be, if all were zero that its kind doesn't name.
func named(m api.Letter) content {
	switch m.Kind {
	case api.MAsk:
		return content{index: m.Index, at: m.At}
	case api.MVote:
		return content{yes: m.Yes}
	case api.MAppend:
		return content{index: m.Index, at: m.At, entries: len(m.Entries), commit: m.Commit}
	case api.MAck:
		return content{yes: m.Yes, index: m.Index}
	case api.MInstall:
		return content{index: m.Index, at: m.At, members: m.Members, off: m.Off, size: m.Size, data: m.Data}
	case api.MMore:
		return content{index: m.Index, off: m.Off}
	}
	return content{}
}

// fits tells whether what m's kind names is such as it asks for; of no kind, nothing is.
func fits(m api.Letter) bool {
	switch m.Kind {
	case api.MVote, api.MAck:
		return true
	case api.MAsk, api.MAppend:
		return len(m.Entries) <= api.MaxBatch && wal.Right(told(m))
	case api.MInstall:
		return m.Index != 0 && m.At != 0 && within(m.Members, 1, everyone) && piece(m)
	case api.MMore:
		return m.Index != 0 && within(m.Off, 0, api.MaxImage)
	}
	return false
}

// told is what a node has whose log is m's Entries behind Index, and whatever is right beside them: of Index, At and each entry a log asks what a letter does.
func told(m api.Letter) api.Hard {
	h := api.Hard{Term: m.Term, Base: m.Index, BaseTerm: m.At, Members: everyone, Log: m.Entries}
	if h.Base != 0 {
		h.Snap = "any"
	}
	return h
}

// piece tells whether m's Data is a piece of a snapshot of Size bytes, from Off on.
func piece(m api.Letter) bool {
	return within(m.Size, 1, api.MaxImage) &&
		within(m.Off, 0, m.Size-1) &&
		within(len(m.Data), 1, min(api.MaxPiece, m.Size-m.Off))
}

// within tells whether n is neither below lo nor above hi.
func within(n, lo, hi int) bool { return lo <= n && n <= hi }
