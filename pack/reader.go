package pack

import "impost/api"

// Reader goes through bytes of its own thing by thing, till the first that isn't in form.
type Reader struct {
	b   []byte
	at  int
	err api.Errno
}

// Read is a reader ahead of b's first byte.
func Read(b []byte) *Reader {
	own := make([]byte, len(b))
	copy(own, b)
	return &Reader{b: own}
}

// refuse gives the reader its error, and puts it back to where the thing begins.
func (r *Reader) refuse(begin int, err api.Errno) {
	r.at = begin
	r.err = err
}

// Num reads a number.
func (r *Reader) Num() int {
	if r.err != api.OK {
		return 0
	}
	n, size, err := number(r.b[r.at:])
	r.at += size
	r.err = err
	return n
}

// number is the one that b begins with, and how many bytes it takes; none of both beside an error.
func number(b []byte) (int, int, api.Errno) {
	u := uint64(0)
	for k, x := range b {
		if k == tenth && x > 1 {
			return 0, 0, api.ErrForm
		}
		u |= uint64(x&(more-1)) << (bits * uint(k))
		if x >= more {
			continue
		}
		if x == 0 && k > 0 {
			return 0, 0, api.ErrForm
		}
		return unfolded(u), k + 1, api.OK
	}
	return 0, 0, api.ErrShort
}

// Within reads a number that is neither below lo nor above hi.
func (r *Reader) Within(lo, hi int) int {
	begin := r.at
	n := r.Num()
	if r.err != api.OK {
		return 0
	}
	if n < lo || n > hi {
		r.refuse(begin, api.ErrLong)
		return 0
	}
	return n
}

// Count reads a number of things to come, each of which takes a byte at least.
func (r *Reader) Count(most int) int {
	begin := r.at
	n := r.Within(0, most)
	// not r.at+n, which may be above what a number can be; a refused number is 0, which is never too many
	if n > len(r.b)-r.at {
		r.refuse(begin, api.ErrShort)
		return 0
	}
	return n
}

// Text reads a text of at most so many bytes.
func (r *Reader) Text(most int) string {
	// a count asks of its bytes just what a text's length does
	n := r.Count(most)
	s := string(r.b[r.at : r.at+n])
	r.at += n
	return s
}

// Flag reads a flag.
func (r *Reader) Flag() bool {
	begin := r.at
	n := r.Num()
	if n != 0 && n != 1 {
		r.refuse(begin, api.ErrForm)
		return false
	}
	return n == 1
}

// Err is the reader's error, or OK.
func (r *Reader) Err() api.Errno { return r.err }

// At is where the reader stands.
func (r *Reader) At() int { return r.at }

// End is ErrTail, if bytes are left.
func (r *Reader) End() api.Errno {
	if r.err == api.OK && r.at < len(r.b) {
		r.err = api.ErrTail
	}
	return r.err
}
