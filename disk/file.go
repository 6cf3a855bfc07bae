package disk

// file is one of a disk's. Of its bytes the first ones, as many as kept says, outlast a crash. Its bytes are the disk's own memory: no call hands them out.
type file struct {
	name  string
	bytes []byte
	kept  int
}

// keep makes all that the file has last.
func (f *file) keep() { f.kept = len(f.bytes) }

// shorten leaves the first n bytes; what comes behind them later is not kept, though what stood there was.
func (f *file) shorten(n int) {
	f.bytes = f.bytes[:n]
	f.kept = min(f.kept, n)
}

// tear leaves what a crash does. A pick tells two things: its rest how many of the bytes that aren't kept stay, its quotient whether the last of these was being written.
func (f *file) tear(pick int) {
	ways := len(f.bytes) - f.kept + 1
	stay := pick % ways
	f.shorten(f.kept + stay)
	if stay > 0 && pick/ways%2 == 1 {
		f.bytes[len(f.bytes)-1] ^= 0xFF
	}
	f.keep()
}
