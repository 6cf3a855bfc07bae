package store

import (
	"strconv"
	"strings"

	"impost/api"
	"impost/frame"
	"impost/pack"
)

const (
	// prefix is what a snapshot file's name begins with.
	prefix = "snap."
	// draft is the file that a snapshot is written to; it counts for nothing till it is renamed.
	draft = prefix + "tmp"
	// digits are those of a snapshot file's number at most.
	digits = 14
)

// snapshot is what a snapshot file tells.
type snapshot struct {
	base, baseTerm, members int
	image                   string
}

// of is h's snapshot; its base is 0, if it has none.
func of(h api.Hard) snapshot {
	return snapshot{base: h.Base, baseTerm: h.BaseTerm, members: h.Members, image: h.Snap}
}

// name is that of the snapshot's file.
func (s snapshot) name() string { return prefix + strconv.Itoa(s.base) }

// bytes are those of the snapshot's file.
func (s snapshot) bytes() []byte {
	b := pack.Num(nil, s.base)
	b = pack.Num(b, s.baseTerm)
	b = pack.Num(b, s.members)
	return frame.Put(nil, pack.Text(b, s.image))
}

// read is the snapshot that a file of the bytes b tells, and whether it tells one.
func read(b []byte) (snapshot, bool) {
	payload, end, e := frame.Next(b, 0)
	if e != api.OK || end != len(b) {
		return snapshot{}, false
	}
	r := pack.Read(payload)
	s := snapshot{base: r.Num(), baseTerm: r.Num(), members: r.Num(), image: r.Text(api.MaxImage)}
	return s, r.End() == api.OK && s.image != ""
}

// numbered tells whether a file is a snapshot's, by its name.
func numbered(file string) bool {
	text, ok := strings.CutPrefix(file, prefix)
	// a nought ahead is also that of the number 0
	if !ok || len(text) < 1 || len(text) > digits || text[0] == '0' {
		return false
	}
	for at := range len(text) {
		if text[at] < '0' || text[at] > '9' {
			return false
		}
	}
	return true
}
