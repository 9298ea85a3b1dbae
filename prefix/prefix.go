// Package prefix is layer 1: numbers whose first byte tells how many bytes they have. See shared/doc/01-prefix.md.
package prefix

import "hourbook/api"

// longest is how many bytes the longest form has; its first byte has no room for the number.
const longest = 9

// widest is how many bytes a fixed number has at most, and mostBits how many bits Narrow leaves at most.
const (
	widest   = 8
	mostBits = 32
)

// Size: P1.1.
func Size(n uint64) int {
	for more := range longest - 1 {
		if n>>(7*(more+1)) == 0 {
			return more + 1
		}
	}
	return longest
}

// Put: P1.1.
func Put(b []byte, n uint64) []byte {
	size := Size(n)
	out := room(b, size)
	for i := range size {
		out = append(out, digit(n, size-1-i))
	}
	out[len(b)] |= ones(size)
	return out
}

// Get: P1.2.
func Get(b []byte) (uint64, int, api.Errno) {
	if len(b) == 0 {
		return 0, 0, api.ErrShort
	}
	size := told(b[0])
	if len(b) < size {
		return 0, 0, api.ErrShort
	}
	n := uint64(b[0] &^ ones(size))
	for i := range size - 1 {
		n = n<<8 | uint64(b[i+1])
	}
	if Size(n) != size {
		return 0, 0, api.ErrForm
	}
	return n, size, api.OK
}

// Fold: P1.3.
func Fold(n int64) uint64 {
	// n>>63 is all ones below 0, and turns 2 n to -2 n - 1; it holds of the least number, too, whose double wraps round to 0.
	return uint64(n<<1) ^ uint64(n>>63)
}

// Unfold: P1.3.
func Unfold(n uint64) int64 {
	return int64(n>>1) ^ -int64(n&1)
}

// Fixed: P1.4.
func Fixed(b []byte, n uint64, size int) ([]byte, api.Errno) {
	if size < 1 || size > widest {
		return nil, api.ErrArg
	}
	if n>>(8*size) != 0 {
		return nil, api.ErrLong
	}
	out := room(b, size)
	for i := range size {
		out = append(out, digit(n, i))
	}
	return out, api.OK
}

// Read: P1.4.
func Read(b []byte, size int) (uint64, api.Errno) {
	if size < 1 || size > widest {
		return 0, api.ErrArg
	}
	if len(b) < size {
		return 0, api.ErrShort
	}
	var n uint64
	for i := range size {
		n |= uint64(b[i]) << (8 * i)
	}
	return n, api.OK
}

// Narrow: P1.4.
func Narrow(n uint64, bits int) (uint32, api.Errno) {
	if bits < 1 || bits > mostBits {
		return 0, api.ErrArg
	}
	if n>>bits != 0 {
		return 0, api.ErrLong
	}
	return uint32(n), api.OK
}

// room is a copy of b in memory of its own, so that what is appended never lands behind the caller's bytes.
func room(b []byte, more int) []byte {
	out := make([]byte, 0, len(b)+more)
	return append(out, b...)
}

// digit is n's digit to the base 256 at place i; it is 0 at place 8, behind the highest one.
func digit(n uint64, i int) byte {
	return byte(n >> (8 * i))
}

// ones is what the first byte of a form of size bytes begins with: size - 1 ones, 0 behind them.
func ones(size int) byte {
	return ^(byte(0xff) >> (size - 1))
}

// told is how many bytes a form has that begins with first.
func told(first byte) int {
	size := 1
	for first&0x80 != 0 {
		first <<= 1
		size++
	}
	return size
}
