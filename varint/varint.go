// Package varint: numbers in one, two, four or eight bytes.
package varint

import (
	"math/bits"

	"spillway/api"
)

// Size of a number in bytes (P1.1).
func Size(n int) (int, api.Errno) {
	switch {
	case n < 0 || n > api.MaxVar:
		return 0, api.ErrRange
	case n < 1<<6:
		return 1, api.OK
	case n < 1<<14:
		return 2, api.OK
	case n < 1<<30:
		return 4, api.OK
	}
	return 8, api.OK
}

// Encode a number (P1.2).
func Encode(n int) ([]byte, api.Errno) {
	size, e := Size(n)
	if e != api.OK {
		return nil, e
	}
	b := make([]byte, size)
	for i := size - 1; i >= 0; i-- {
		b[i] = byte(n)
		n >>= 8
	}
	// Size leaves the two highest bits free: they tell its power of two.
	b[0] |= byte(bits.TrailingZeros(uint(size))) << 6
	return b, api.OK
}

// Decode a number, and tell how many bytes it has (P1.3).
func Decode(b []byte) (n, used int, e api.Errno) {
	if len(b) == 0 || len(b) < sizeBy(b[0]) {
		e = api.ErrShort
		return
	}
	used = sizeBy(b[0])
	n = int(b[0] & 63)
	for _, x := range b[1:used] {
		n = n<<8 | int(x)
	}
	return
}

// sizeBy tells how many bytes a number has that begins with this one.
func sizeBy(first byte) int {
	return 1 << (first >> 6)
}
