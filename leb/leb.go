// Package leb is layer 1: numbers in pieces of seven bits. See shared/doc/01-leb.md.
package leb

import "trammel/api"

const (
	piece  = 7    // bits of a number that stand in one byte
	more   = 0x80 // set in each byte but the last one
	mask   = 0x7f
	sign   = 0x40 // the highest bit of a piece
	widest = 64   // bits that a number may have
)

// U: an unsigned number.
func U(b []byte, bits int) (uint64, int, api.Errno) {
	n, size, e := gather(b, bits)
	if e != api.OK {
		return 0, 0, e
	}
	if size == most(bits) && b[size-1]>>inLast(bits) != 0 {
		return 0, 0, api.ErrForm
	}
	return n, size, api.OK
}

// S: a signed number.
func S(b []byte, bits int) (int64, int, api.Errno) {
	n, size, e := gather(b, bits)
	if e != api.OK {
		return 0, 0, e
	}
	if size == most(bits) && !carriesSign(b[size-1], inLast(bits)) {
		return 0, 0, api.ErrForm
	}
	return extend(n, size*piece), size, api.OK
}

// PutU: an unsigned number behind bytes.
func PutU(b []byte, n uint64) []byte {
	out := fresh(b)
	for n > mask {
		out = append(out, byte(n)|more)
		n >>= piece
	}
	return append(out, byte(n))
}

// PutS: a signed number behind bytes.
func PutS(b []byte, n int64) []byte {
	out := fresh(b)
	for n < -sign || n >= sign {
		out = append(out, byte(n)|more)
		n >>= piece
	}
	return append(out, byte(n)&mask)
}

// most is how many bytes a number of so many bits has at most.
func most(bits int) int { return (bits + piece - 1) / piece }

// inLast is how many of the number's bits stand in its most-th byte.
func inLast(bits int) int { return bits - (most(bits)-1)*piece }

// gather reads the pieces up to the last one. What stands beyond the number's bits is left
// to the caller, since signed and unsigned numbers differ in that alone.
func gather(b []byte, bits int) (uint64, int, api.Errno) {
	if bits < 1 || bits > widest {
		return 0, 0, api.ErrArg
	}
	n := uint64(0)
	for i := range most(bits) {
		if i == len(b) {
			return 0, 0, api.ErrShort
		}
		n |= uint64(b[i]&mask) << (i * piece)
		if b[i]&more == 0 {
			return n, i + 1, api.OK
		}
	}
	return 0, 0, api.ErrForm
}

// carriesSign tells whether a piece, of which only the lowest bits belong to the number, goes
// on above its sign bit as that bit says.
func carriesSign(last byte, bits int) bool {
	high := last >> (bits - 1)
	return high == 0 || high == mask>>(bits-1)
}

// extend makes the highest of so many bits the sign. Ten pieces have more bits than a uint64,
// whose highest bit is the sign already.
func extend(n uint64, bits int) int64 {
	if bits >= widest {
		return int64(n)
	}
	gap := widest - bits
	return int64(n<<gap) >> gap
}

// fresh copies b, since its spare room is the caller's.
func fresh(b []byte) []byte {
	out := make([]byte, 0, len(b)+most(widest))
	return append(out, b...)
}
