// Package span is layer 1: see shared/doc/01-span.md.
package span

import (
	"math"

	"sallyport/api"
)

const (
	maxSize  = 8
	maxTo    = 1 << 16
	maxAlign = 1 << 62
)

// Within tells whether a stretch lies within so many bytes.
func Within(off int, length int, total int) bool {
	if off < 0 || length < 0 || total < 0 {
		return false
	}
	// off + length may overflow; total - length can't, as both are from 0 on.
	return off <= total-length
}

// Cut is a stretch.
func Cut(b []byte, off int, length int) ([]byte, api.Errno) {
	if !Within(off, length, len(b)) {
		return nil, api.ErrEnd
	}
	return longer(b[off:off+length], 0), api.OK
}

// Get reads a number.
func Get(b []byte, off int, size int) (int, api.Errno) {
	if !sizeRight(size) {
		return 0, api.ErrForm
	}
	if !Within(off, size, len(b)) {
		return 0, api.ErrEnd
	}
	n := uint64(0)
	for _, x := range b[off : off+size] {
		n = n<<8 | uint64(x)
	}
	if n > math.MaxInt64 {
		return 0, api.ErrBig
	}
	return int(n), api.OK
}

// Put writes a number behind bytes.
func Put(b []byte, size int, n int) ([]byte, api.Errno) {
	if !sizeRight(size) {
		return nil, api.ErrForm
	}
	if n < 0 || n>>(8*size) != 0 {
		return nil, api.ErrBig
	}
	out := longer(b, size)
	for i := range size {
		out[len(out)-1-i] = byte(n >> (8 * i))
	}
	return out, api.OK
}

// Align is the next multiple.
func Align(n int, to int) (int, api.Errno) {
	if n < 0 || !toRight(to) {
		return 0, api.ErrForm
	}
	// Held against the limit ahead of adding, so that the sum can't overflow.
	if n > maxAlign {
		return 0, api.ErrBig
	}
	up := n + gap(n, to)
	if up > maxAlign {
		return 0, api.ErrBig
	}
	return up, api.OK
}

// Pad puts noughts behind bytes.
func Pad(b []byte, to int) ([]byte, api.Errno) {
	if !toRight(to) {
		return nil, api.ErrForm
	}
	return longer(b, gap(len(b), to)), api.OK
}

// Zeros tells whether all bytes are 0.
func Zeros(b []byte) bool {
	for _, x := range b {
		if x != 0 {
			return false
		}
	}
	return true
}

func sizeRight(size int) bool { return 1 <= size && size <= maxSize }

func toRight(to int) bool { return 1 <= to && to <= maxTo }

// gap is how much n lacks to a multiple of to.
func gap(n int, to int) int {
	rest := n % to
	if rest == 0 {
		return 0
	}
	return to - rest
}

// longer is b with more noughts behind it, in new memory: append might write
// into the spare room of what was handed in.
func longer(b []byte, more int) []byte {
	out := make([]byte, len(b)+more)
	copy(out, b)
	return out
}
