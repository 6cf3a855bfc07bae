package wal

import "impost/api"

const (
	// nobody is the Vote of a node that has none.
	nobody = -1
	// everyone is the set of all nodes that there may be.
	everyone = 1<<api.MaxNodes - 1
)

// Right tells whether a node may have h.
func Right(h api.Hard) bool {
	if !headed(h) || (h.Snap == "") != (h.Base == 0) || len(h.Snap) > api.MaxImage {
		return false
	}
	all := h.Log
	for k, e := range all {
		h.Log = all[:k]
		if !fits(h, e) {
			return false
		}
	}
	return true
}

// headed tells whether h is right, its Snap and its Log aside.
func headed(h api.Hard) bool {
	return within(h.Term, 0, api.MaxTerm) &&
		within(h.Vote, nobody, api.MaxNodes-1) &&
		within(h.Base, 0, api.MaxIndex) &&
		within(h.BaseTerm, 0, h.Term) &&
		(h.BaseTerm == 0) == (h.Base == 0) &&
		within(h.Members, 1, everyone)
}

// fits tells whether h, which is right, would be with e behind its Log: neither Snap nor Log are asked again, so that a long file is gone through once.
func fits(h api.Hard, e api.Entry) bool {
	return len(h.Log) < api.MaxLog &&
		last(h) < api.MaxIndex &&
		within(e.Term, max(1, lastTerm(h)), h.Term) &&
		within(e.Members, 0, everyone) &&
		len(e.Data) <= api.MaxEntry &&
		(e.Members == 0 || e.Data == "")
}

// within tells whether n is neither below lo nor above hi.
func within(n, lo, hi int) bool { return lo <= n && n <= hi }

// last is the number of the last entry; Base, if there is none.
func last(h api.Hard) int { return h.Base + len(h.Log) }

// lastTerm is the Term of the last entry; BaseTerm, if there is none.
func lastTerm(h api.Hard) int {
	if len(h.Log) == 0 {
		return h.BaseTerm
	}
	return h.Log[len(h.Log)-1].Term
}
