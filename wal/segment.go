package wal

import (
	"slices"

	"impost/api"
	"impost/frame"
	"impost/pack"
)

// Kinds of records.
const (
	isBegin = 1 + iota // Term, Vote, Base, BaseTerm, Members
	isEntry            // Term, Members, Data
	isReady
	isVote // Term, Vote
	isCut  // a number
)

// segment is what records come to, one behind the other. Its Log is memory of its own, as what is read of records is.
type segment struct {
	hard  api.Hard
	begun bool
	ready bool
}

// empty is a segment ahead of its first record.
func empty() segment { return segment{hard: api.Hard{Vote: nobody}} }

// read is the segment that b begins with, and where its records end.
func read(b []byte) (segment, int) {
	s := empty()
	at := 0
	for {
		payload, end, e := frame.Next(b, at)
		if e != api.OK || !s.take(payload) {
			return s, at
		}
		at = end
	}
}

// take does what the payload says; nothing, and false, if it is no record that may stand there.
func (s *segment) take(payload []byte) bool {
	r := pack.Read(payload)
	switch r.Num() {
	case isBegin:
		h := api.Hard{Term: r.Num(), Vote: r.Num(), Base: r.Num(), BaseTerm: r.Num(), Members: r.Num()}
		return r.End() == api.OK && s.begin(h)
	case isEntry:
		e := api.Entry{Term: r.Num(), Members: r.Num(), Data: r.Text(api.MaxEntry)}
		return r.End() == api.OK && s.add(e)
	case isReady:
		return r.End() == api.OK && s.close()
	case isVote:
		term, vote := r.Num(), r.Num()
		return r.End() == api.OK && s.vote(term, vote)
	case isCut:
		to := r.Num()
		return r.End() == api.OK && s.cut(to)
	}
	return false
}

// takeAll does what records say that were made for this segment: it is then just what a reader makes of its file, in memory of its own.
func (s *segment) takeAll(records [][]byte) {
	for _, p := range records {
		s.take(p)
	}
}

func (s *segment) begin(h api.Hard) bool {
	if s.begun || !headed(h) {
		return false
	}
	s.hard, s.begun = h, true
	return true
}

func (s *segment) add(e api.Entry) bool {
	if !s.begun || !fits(s.hard, e) {
		return false
	}
	s.hard.Log = append(s.hard.Log, e)
	return true
}

func (s *segment) close() bool {
	if !s.begun || s.ready {
		return false
	}
	s.ready = true
	return true
}

func (s *segment) vote(term, vote int) bool {
	h := s.hard
	if !s.ready || term < h.Term || term == h.Term && h.Vote != nobody {
		return false
	}
	h.Term, h.Vote = term, vote
	// a Term that is greater leaves the Log right
	if !headed(h) {
		return false
	}
	s.hard = h
	return true
}

func (s *segment) cut(to int) bool {
	if !s.ready || !within(to, s.hard.Base, last(s.hard)) {
		return false
	}
	log := s.hard.Log
	s.hard.Log = slices.Delete(log, to-s.hard.Base, len(log))
	return true
}

// whole are the records of a segment that is h from its beginning on.
func whole(h api.Hard) [][]byte {
	all := [][]byte{record(isBegin, h.Term, h.Vote, h.Base, h.BaseTerm, h.Members)}
	all = append(all, entries(h.Log)...)
	return append(all, record(isReady))
}

// change are the records by which a segment that is was comes to be h.
func change(was, h api.Hard) [][]byte {
	var all [][]byte
	if h.Term != was.Term || h.Vote != was.Vote {
		all = append(all, record(isVote, h.Term, h.Vote))
	}
	alike := begun(was.Log, h.Log)
	if alike < len(was.Log) {
		all = append(all, record(isCut, h.Base+alike))
	}
	return append(all, entries(h.Log[alike:])...)
}

// begun is how many entries both begin with.
func begun(a, b []api.Entry) int {
	k := 0
	for k < len(a) && k < len(b) && a[k] == b[k] {
		k++
	}
	return k
}

// entries are the records of a log's.
func entries(log []api.Entry) [][]byte {
	var all [][]byte
	for _, e := range log {
		all = append(all, pack.Text(record(isEntry, e.Term, e.Members), e.Data))
	}
	return all
}

// record is numbers one behind the other.
func record(l ...int) []byte {
	var b []byte
	for _, n := range l {
		b = pack.Num(b, n)
	}
	return b
}

// framed are the records' frames. Each is made by itself, as Put copies all that stands ahead.
func framed(records [][]byte) []byte {
	var b []byte
	for _, p := range records {
		b = append(b, frame.Put(nil, p)...)
	}
	return b
}
