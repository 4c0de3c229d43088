package varint

import (
	"bytes"
	"math"
	"testing"

	"spillway/api"
)

// sizes has the numbers at which the size of a number goes up, and what lies beside them.
var sizes = []struct {
	n    int
	size int
	e    api.Errno
}{
	{0, 1, api.OK},
	{1, 1, api.OK},
	{1<<6 - 1, 1, api.OK},
	{1 << 6, 2, api.OK},
	{1<<14 - 1, 2, api.OK},
	{1 << 14, 4, api.OK},
	{1<<30 - 1, 4, api.OK},
	{1 << 30, 8, api.OK},
	{1 << 32, 8, api.OK},
	{api.MaxVar - 1, 8, api.OK},
	{api.MaxVar, 8, api.OK},
	{api.MaxVar + 1, 0, api.ErrRange},
	{math.MaxInt, 0, api.ErrRange},
	{-1, 0, api.ErrRange},
	{math.MinInt, 0, api.ErrRange},
}

// TestSize: P1.1, the bounds of each size, and what lies outside of all.
func TestSize(t *testing.T) {
	for _, c := range sizes {
		size, e := Size(c.n)
		if size != c.size || e != c.e {
			t.Errorf("Size(%d) = %d, %d, want %d, %d", c.n, size, e, c.size, c.e)
		}
	}
}

// TestEncode: P1.2, the bytes at the bounds of each size.
func TestEncode(t *testing.T) {
	for _, c := range []struct {
		n    int
		want []byte
	}{
		{0, []byte{0}},
		{37, []byte{37}},
		{63, []byte{63}},
		{64, []byte{0x40, 0x40}},
		{15293, []byte{0x7b, 0xbd}},
		{1<<14 - 1, []byte{0x7f, 0xff}},
		{1 << 14, []byte{0x80, 0, 0x40, 0}},
		{494878333, []byte{0x9d, 0x7f, 0x3e, 0x7d}},
		{1<<30 - 1, []byte{0xbf, 0xff, 0xff, 0xff}},
		{1 << 30, []byte{0xc0, 0, 0, 0, 0x40, 0, 0, 0}},
		{151288809941952652, []byte{0xc2, 0x19, 0x7c, 0x5e, 0xff, 0x14, 0xe8, 0x8c}},
		{0x0102030405060708, []byte{0xc1, 2, 3, 4, 5, 6, 7, 8}},
		{api.MaxVar, []byte{0xff, 0xff, 0xff, 0xff, 0xff, 0xff, 0xff, 0xff}},
	} {
		b, e := Encode(c.n)
		if !bytes.Equal(b, c.want) || e != api.OK {
			t.Errorf("Encode(%d) = %v, %d, want %v, 0", c.n, b, e, c.want)
		}
	}
}

// TestEncodeRefuses: P1.2, what Size refuses, and no bytes with it.
func TestEncodeRefuses(t *testing.T) {
	for _, c := range sizes {
		b, e := Encode(c.n)
		if len(b) != c.size || e != c.e {
			t.Errorf("Encode(%d) = %v, %d, want %d bytes, %d", c.n, b, e, c.size, c.e)
		}
	}
}

// TestEncodeNewMemory: what one call answers is not touched by what is done to another's answer.
func TestEncodeNewMemory(t *testing.T) {
	for _, n := range []int{5, 500, 50000, 1 << 40} {
		first, _ := Encode(n)
		second, _ := Encode(n)
		want := bytes.Clone(second)
		for i := range first[:cap(first)] {
			first[:cap(first)][i] ^= 255
		}
		if !bytes.Equal(second, want) {
			t.Errorf("Encode(%d): two answers share memory", n)
		}
	}
}

// TestDecode: P1.3, numbers in the fewest bytes and in more, with other bytes behind them.
func TestDecode(t *testing.T) {
	for _, c := range []struct {
		b       []byte
		n, used int
	}{
		{[]byte{0}, 0, 1},
		{[]byte{37}, 37, 1},
		{[]byte{63}, 63, 1},
		{[]byte{63, 255, 255}, 63, 1},
		{[]byte{0x40, 0}, 0, 2},
		{[]byte{0x40, 37, 9}, 37, 2},
		{[]byte{0x7b, 0xbd}, 15293, 2},
		{[]byte{0x7f, 0xff}, 1<<14 - 1, 2},
		{[]byte{0x80, 0, 0, 37}, 37, 4},
		{[]byte{0x9d, 0x7f, 0x3e, 0x7d}, 494878333, 4},
		{[]byte{0xbf, 0xff, 0xff, 0xff, 1}, 1<<30 - 1, 4},
		{[]byte{0xc0, 0, 0, 0, 0, 0, 0, 0}, 0, 8},
		{[]byte{0xc0, 0, 0, 0, 0, 0, 0, 37}, 37, 8},
		{[]byte{0xc2, 0x19, 0x7c, 0x5e, 0xff, 0x14, 0xe8, 0x8c}, 151288809941952652, 8},
		{[]byte{0xff, 0xff, 0xff, 0xff, 0xff, 0xff, 0xff, 0xff, 7}, api.MaxVar, 8},
	} {
		n, used, e := Decode(c.b)
		if n != c.n || used != c.used || e != api.OK {
			t.Errorf("Decode(%v) = %d, %d, %d, want %d, %d, 0", c.b, n, used, e, c.n, c.used)
		}
	}
}

// TestDecodeEachFirst: P1.3, each first byte, with each number of bytes behind it, of which none is read that isn't there.
func TestDecodeEachFirst(t *testing.T) {
	for first := range 256 {
		size := []int{1, 2, 4, 8}[first/64]
		for length := 1; length <= 9; length++ {
			// The spare room is full of ones: who reads it tells a wrong number.
			room := bytes.Repeat([]byte{255}, 16)
			b := room[:length]
			clear(b)
			b[0] = byte(first)
			want, used, code := first%64<<(8*(size-1)), size, api.OK
			if length < size {
				want, used, code = 0, 0, api.ErrShort
			}
			n, u, e := Decode(b)
			if n != want || u != used || e != code {
				t.Errorf("Decode(%v) = %d, %d, %d, want %d, %d, %d", b, n, u, e, want, used, code)
			}
		}
	}
}

// TestDecodeShort: P1.3, no bytes at all, and each number cut short.
func TestDecodeShort(t *testing.T) {
	list := [][]byte{nil, {}}
	for _, n := range []int{64, 1 << 14, 1 << 30, api.MaxVar} {
		b, _ := Encode(n)
		for i := range b {
			list = append(list, b[:i])
		}
	}
	for _, b := range list {
		if n, used, e := Decode(b); n != 0 || used != 0 || e != api.ErrShort {
			t.Errorf("Decode(%v) = %d, %d, %d, want 0, 0, %d", b, n, used, e, api.ErrShort)
		}
	}
}

// TestRoundTrip: P1.2 and P1.3, each power of two, and what lies beside it, comes back as it was.
func TestRoundTrip(t *testing.T) {
	for shift := range 62 {
		for _, n := range []int{1<<shift - 1, 1 << shift, 1<<shift + 1} {
			size, _ := Size(n)
			b, _ := Encode(n)
			kept := bytes.Clone(b)
			back, used, e := Decode(b)
			if back != n || used != size || e != api.OK {
				t.Errorf("Decode(Encode(%d)) = %d, %d, %d", n, back, used, e)
			}
			if !bytes.Equal(b, kept) {
				t.Errorf("Decode changed %v to %v", kept, b)
			}
		}
	}
}
