// Package sum reckons a sum of 32 bits (Koopman's CRC) by which spoilt bytes show: see the document's chapter 1.
package sum

// divisor is Koopman's polynomial with its bits mirrored, since bytes go in by their lowest bit first.
const divisor uint32 = 0xEB31D82E

// size is how many bytes of a sealed text are its sum.
const size = 4

// On goes on from the sum c of what stands ahead with the bytes of p.
func On(c uint32, p []byte) uint32 {
	s := ^c
	for _, b := range p {
		s = divide(s ^ uint32(b))
	}
	return ^s
}

// divide takes the eight lowest bits of s through the division.
func divide(s uint32) uint32 {
	for range 8 {
		out := s & 1
		s >>= 1
		if out == 1 {
			s ^= divisor
		}
	}
	return s
}

// Of is the sum of all the parts' bytes, one part behind the other.
func Of(parts ...[]byte) uint32 {
	c := uint32(0)
	for _, p := range parts {
		c = On(c, p)
	}
	return c
}

// Seal is p with its sum behind it.
func Seal(p []byte) []byte {
	b := make([]byte, len(p)+size)
	copy(b, p)
	c := Of(p)
	for k := range size {
		b[len(p)+k] = byte(c >> (8 * uint(k)))
	}
	return b
}

// Open is what was sealed as b; false, if nothing was.
func Open(b []byte) ([]byte, bool) {
	n := len(b) - size
	if n < 0 || Of(b[:n]) != tail(b[n:]) {
		return nil, false
	}
	// a piece of b would hand out b's own memory, its sum as spare room
	p := make([]byte, n)
	copy(p, b)
	return p, true
}

// tail reads a sum from its bytes, the lowest first.
func tail(b []byte) uint32 {
	c := uint32(0)
	for k, x := range b {
		c |= uint32(x) << (8 * uint(k))
	}
	return c
}
