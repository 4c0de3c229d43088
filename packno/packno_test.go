package packno

import (
	"bytes"
	"math"
	"testing"

	"spillway/api"
)

// TestCut: P2.1, the bytes of numbers near to and far from what was heard of.
func TestCut(t *testing.T) {
	for _, c := range []struct {
		n, acked int
		want     []byte
	}{
		{0, -1, []byte{0}},
		{1, 0, []byte{1}},
		{127, -1, []byte{127}},
		{128, -1, []byte{0, 128}},
		{128, 0, []byte{128}},
		{256, 255, []byte{0}},
		{0xac5c02, 0xabe8b3, []byte{0x5c, 0x02}},
		{0xace8fe, 0xabe8b3, []byte{0xac, 0xe8, 0xfe}},
		{0x01020304, -1, []byte{1, 2, 3, 4}},
		{0x0102030405060708, 0x0102030405060707, []byte{8}},
		{0x0102030405060708, 0x0102030405050000, []byte{6, 7, 8}},
		{0x0102030405060708, 0x0102030400000000, []byte{5, 6, 7, 8}},
		{api.MaxVar, api.MaxVar - 1, []byte{255}},
		{api.MaxVar, api.MaxVar - 1<<31, []byte{255, 255, 255, 255}},
	} {
		b, e := Cut(c.n, c.acked)
		if !bytes.Equal(b, c.want) || e != api.OK {
			t.Errorf("Cut(%d, %d) = %v, %d, want %v, 0", c.n, c.acked, b, e, c.want)
		}
	}
}

// TestCutSizes: P2.1, the most that each size reaches above what was heard of, and one more.
func TestCutSizes(t *testing.T) {
	for _, acked := range []int{-1, 0, 1, 1000, 1<<31 - 1, 1 << 40, api.MaxVar - 1<<31 - 1} {
		for _, c := range []struct{ above, size int }{
			{1, 1}, {2, 1},
			{1<<7 - 1, 1}, {1 << 7, 1}, {1<<7 + 1, 2}, {1<<8 - 1, 2}, {1 << 8, 2},
			{1 << 15, 2}, {1<<15 + 1, 3}, {1<<16 - 1, 3},
			{1 << 23, 3}, {1<<23 + 1, 4}, {1<<24 - 1, 4},
			{1 << 31, 4},
		} {
			b, e := Cut(acked+c.above, acked)
			if len(b) != c.size || e != api.OK {
				t.Errorf("Cut(%d, %d) = %v, %d, want %d bytes, 0", acked+c.above, acked, b, e, c.size)
			}
		}
	}
}

// TestCutRefuses: P2.1, numbers outside their bounds, and those that four bytes would not do for.
func TestCutRefuses(t *testing.T) {
	for _, c := range []struct{ n, acked int }{
		{-1, -1}, {-1, -2}, {math.MinInt, -1}, {math.MinInt, math.MaxInt},
		{api.MaxVar + 1, api.MaxVar}, {api.MaxVar + 1, api.MaxVar - 1}, {math.MaxInt, math.MaxInt - 1},
		{0, -2}, {5, -2}, {0, math.MinInt}, {api.MaxVar, math.MinInt},
		{0, 0}, {5, 5}, {5, 6}, {5, math.MaxInt}, {api.MaxVar, api.MaxVar},
		{1 << 31, -1}, {1<<31 + 1, 0}, {1<<32 - 1, 0}, {1 << 40, 0}, {1<<40 + 1, 1 << 40 >> 1},
		{api.MaxVar, -1}, {api.MaxVar, api.MaxVar - 1<<31 - 1},
	} {
		if b, e := Cut(c.n, c.acked); len(b) != 0 || e != api.ErrRange {
			t.Errorf("Cut(%d, %d) = %v, %d, want none, %d", c.n, c.acked, b, e, api.ErrRange)
		}
	}
}

// TestCutNewMemory: what one call answers is not touched by what is done to another's answer.
func TestCutNewMemory(t *testing.T) {
	for _, acked := range []int{4, 5000, 1 << 20, 1 << 30} {
		n := acked + acked/2
		first, _ := Cut(n, acked)
		second, _ := Cut(n, acked)
		want := bytes.Clone(second)
		for i := range first[:cap(first)] {
			first[:cap(first)][i] ^= 255
		}
		if !bytes.Equal(second, want) {
			t.Errorf("Cut(%d, %d): two answers share memory", n, acked)
		}
	}
}

// TestWhole: P2.2, numbers that stand, go up and go down, at the bounds of each.
func TestWhole(t *testing.T) {
	for _, c := range []struct {
		top  int
		b    []byte
		want int
	}{
		{0xa82f30ea, []byte{0x9b, 0x32}, 0xa82f9b32},
		{-1, []byte{0}, 0},
		{-1, []byte{127}, 127},
		{-1, []byte{128}, 128},
		// Nothing lies a window lower: it stands, far above though it is.
		{-1, []byte{129}, 129},
		{-1, []byte{255}, 255},
		{-1, []byte{255, 255, 255, 255}, 1<<32 - 1},
		{255, []byte{1}, 257},
		{300, []byte{255}, 255},
		// next is 1000 = 3*256 + 232: 872 is half a window below it.
		{999, []byte{103}, 871 + 256},
		{999, []byte{104}, 872 + 256},
		{999, []byte{105}, 873},
		// next is 1050 = 4*256 + 26: 1178 is half a window above it.
		{1049, []byte{153}, 1177},
		{1049, []byte{154}, 1178},
		{1049, []byte{155}, 1179 - 256},
		// next is 20: what is too far above it has nothing a window lower.
		{19, []byte{149}, 149},
		{19, []byte{255}, 255},
		// next is 256: one window can be taken off, down to 0.
		{255, []byte{129}, 129},
		{255, []byte{128}, 384},
		{0x12345678, []byte{0x12, 0x34, 0x60}, 0x12123460},
		{0x12345678, []byte{0xf2, 0x34, 0x60}, 0x11f23460},
		{0x12f45678, []byte{0x12, 0x34, 0x60}, 0x13123460},
		{0x0102030405060708, []byte{9}, 0x0102030405060709},
		{0x0102030405060708, []byte{6, 7, 9}, 0x0102030405060709},
		{0x0102030405060708, []byte{5, 6, 7, 9}, 0x0102030405060709},
		{0x0102030405060708, []byte{0xf5, 6, 7, 9}, 0x01020303f5060709},
		{0x01020304f5060708, []byte{5, 6, 7, 9}, 0x0102030505060709},
	} {
		if n, e := Whole(c.top, c.b); n != c.want || e != api.OK {
			t.Errorf("Whole(%d, %v) = %d, %d, want %d, 0", c.top, c.b, n, e, c.want)
		}
	}
}

// TestWholeHighest: P2.2, near the highest number nothing goes up to 2^62.
func TestWholeHighest(t *testing.T) {
	const end = api.MaxVar + 1
	for _, c := range []struct {
		top  int
		b    []byte
		want int
	}{
		{end - 258, []byte{127}, end - 129},
		{end - 258, []byte{128}, end - 384},
		{end - 129, []byte{0}, end - 256},
		{end - 2, []byte{0}, end - 256},
		{end - 2, []byte{127}, end - 129},
		{end - 2, []byte{255}, end - 1},
		{end - 2, []byte{0, 0}, end - 1<<16},
		{end - 2, []byte{0, 0, 0}, end - 1<<24},
		{end - 2, []byte{0, 0, 0, 0}, end - 1<<32},
		// Here next is 2^62 itself, and what is next but for its last bytes lies at or above it.
		{end - 1, []byte{0}, end},
		{end - 1, []byte{128}, end + 128},
		{end - 1, []byte{129}, end - 127},
		{end - 1, []byte{255, 255, 255, 255}, end - 1},
	} {
		if n, e := Whole(c.top, c.b); n != c.want || e != api.OK {
			t.Errorf("Whole(%d, %v) = %d, %d, want %d, 0", c.top, c.b, n, e, c.want)
		}
	}
}

// TestWholeRefuses: P2.2, too few or too many bytes, told ahead of a highest number outside its bounds.
func TestWholeRefuses(t *testing.T) {
	for _, c := range []struct {
		top  int
		b    []byte
		want api.Errno
	}{
		{5, nil, api.ErrSize},
		{5, []byte{}, api.ErrSize},
		{5, make([]byte, 5), api.ErrSize},
		{5, make([]byte, 8), api.ErrSize},
		{5, make([]byte, 300), api.ErrSize},
		{-2, nil, api.ErrSize},
		{api.MaxVar + 1, make([]byte, 5), api.ErrSize},
		{-2, []byte{1}, api.ErrRange},
		{math.MinInt, []byte{1, 2}, api.ErrRange},
		{api.MaxVar + 1, []byte{1, 2, 3}, api.ErrRange},
		{math.MaxInt, []byte{1, 2, 3, 4}, api.ErrRange},
	} {
		if n, e := Whole(c.top, c.b); n != 0 || e != c.want {
			t.Errorf("Whole(%d, %v) = %d, %d, want 0, %d", c.top, c.b, n, e, c.want)
		}
	}
}

// TestWholeNearest: P2.2, each byte after each of the first numbers: the number told ends with the byte, and lies within half a window of next wherever one from 0 on does.
func TestWholeNearest(t *testing.T) {
	for top := -1; top < 1000; top++ {
		next := top + 1
		for b := range 256 {
			want := b
			for want <= next-128 {
				want += 256
			}
			if n, e := Whole(top, []byte{byte(b)}); n != want || e != api.OK {
				t.Fatalf("Whole(%d, [%d]) = %d, %d, want %d, 0", top, b, n, e, want)
			}
		}
	}
}

// TestRoundTrip: P2.1 and P2.2, what is cut for one who has heard of acked is whole again for all who have seen that or more, up to the number itself, and it is left as it was.
func TestRoundTrip(t *testing.T) {
	for _, acked := range []int{-1, 0, 100, 255, 65535, 1<<24 - 1, 1<<32 - 1, 1 << 40, api.MaxVar - 1<<31} {
		for shift := range 32 {
			for _, n := range []int{acked + 1<<shift, acked + 1<<shift - 1<<shift/3} {
				b, e := Cut(n, acked)
				if e != api.OK {
					t.Fatalf("Cut(%d, %d) = %d", n, acked, e)
				}
				kept := bytes.Clone(b)
				for _, top := range []int{acked, acked + (n-acked)/2, n - 1, n} {
					if back, e := Whole(top, b); back != n || e != api.OK {
						t.Errorf("Whole(%d, %v) = %d, %d, want %d, 0", top, b, back, e, n)
					}
				}
				if !bytes.Equal(b, kept) {
					t.Errorf("Whole changed %v to %v", kept, b)
				}
			}
		}
	}
}
