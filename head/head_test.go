package head

import (
	"bytes"
	"math"
	"slices"
	"testing"

	"spillway/api"
)

// join bytes.
func join(l ...[]byte) []byte {
	return slices.Concat(l...)
}

// some bytes, so many.
func some(n int) []byte {
	return bytes.Repeat([]byte{9}, n)
}

// same heads, be their empty tokens nil or not.
func same(h, g api.Head) bool {
	return h.Kind == g.Kind && h.To == g.To && h.From == g.From && bytes.Equal(h.Token, g.Token) &&
		h.Number == g.Number && h.Size == g.Size
}

// short is a Short head with a Number in so many bytes.
func short(number, size int) api.Head {
	return api.Head{Kind: api.Short, To: 5, Number: number, Size: size}
}

// initial is an Initial head with a token and a Number in one byte.
func initial(token []byte) api.Head {
	return api.Head{Kind: api.Initial, To: 5, From: 6, Token: token, Number: 7, Size: 1}
}

// retry is a Retry head with a token.
func retry(token []byte) api.Head {
	return api.Head{Kind: api.Retry, To: 5, From: 6, Token: token}
}

// written are heads that may be, and their bytes.
var written = []struct {
	h api.Head
	b []byte
}{
	{short(0, 1), []byte{64, 5, 0}},
	{short(255, 1), []byte{64, 5, 255}},
	{short(0, 2), []byte{65, 5, 0, 0}},
	{short(258, 2), []byte{65, 5, 1, 2}},
	{short(1<<16-1, 2), []byte{65, 5, 255, 255}},
	{short(0x010203, 3), []byte{66, 5, 1, 2, 3}},
	{short(1<<24-1, 3), []byte{66, 5, 255, 255, 255}},
	{short(0x01020304, 4), []byte{67, 5, 1, 2, 3, 4}},
	{short(1<<32-1, 4), []byte{67, 5, 255, 255, 255, 255}},
	{short(1<<31, 4), []byte{67, 5, 128, 0, 0, 0}},
	{api.Head{Kind: api.Short, Size: 1}, []byte{64, 0, 0}},
	{api.Head{Kind: api.Short, To: 255, Size: 1}, []byte{64, 255, 0}},
	{initial([]byte("ab")), []byte{192, 5, 6, 2, 97, 98, 7}},
	{initial(nil), []byte{192, 5, 6, 0, 7}},
	{initial([]byte{}), []byte{192, 5, 6, 0, 7}},
	{initial(some(63)), join([]byte{192, 5, 6, 63}, some(63), []byte{7})},
	{initial(some(64)), join([]byte{192, 5, 6, 0x40, 64}, some(64), []byte{7})},
	{initial(some(120)), join([]byte{192, 5, 6, 0x40, 120}, some(120), []byte{7})},
	{api.Head{Kind: api.Initial, Size: 1}, []byte{192, 0, 0, 0, 0}},
	{api.Head{Kind: api.Initial, To: 255, From: 255, Token: []byte{1}, Number: 1<<32 - 1, Size: 4},
		[]byte{195, 255, 255, 1, 1, 255, 255, 255, 255}},
	{api.Head{Kind: api.Initial, To: 1, From: 2, Number: 258, Size: 2}, []byte{193, 1, 2, 0, 1, 2}},
	{api.Head{Kind: api.Initial, To: 1, From: 2, Number: 258, Size: 3}, []byte{194, 1, 2, 0, 0, 1, 2}},
	{api.Head{Kind: api.Retry}, []byte{240, 0, 0, 0}},
	{api.Head{Kind: api.Retry, To: 255, From: 255}, []byte{240, 255, 255, 0}},
	{api.Head{Kind: api.Retry, To: 5, Token: []byte("a")}, []byte{240, 5, 0, 1, 97}},
	{retry([]byte("abc")), []byte{240, 5, 6, 3, 97, 98, 99}},
	{retry(some(120)), join([]byte{240, 5, 6, 0x40, 120}, some(120))},
}

// bad are heads that may not be, and why; of several faults the one that is named first.
var bad = []struct {
	h api.Head
	e api.Errno
}{
	{api.Head{Kind: 3}, api.ErrKind},
	{api.Head{Kind: 3, Size: 1}, api.ErrKind},
	{api.Head{Kind: -1, Size: 1}, api.ErrKind},
	{api.Head{Kind: math.MinInt}, api.ErrKind},
	{api.Head{Kind: math.MaxInt}, api.ErrKind},
	{api.Head{Kind: 3, To: -1, Token: some(121)}, api.ErrKind},
	{initial(some(121)), api.ErrSize},
	{initial(some(1000)), api.ErrSize},
	{retry(some(121)), api.ErrSize},
	{api.Head{Kind: api.Short, Size: 1, Token: some(121)}, api.ErrSize},
	{api.Head{Kind: api.Initial, To: -1, From: 256, Token: some(121)}, api.ErrSize},
	{api.Head{Kind: api.Retry, Size: 1, Token: some(121)}, api.ErrSize},
	// Ahead of what a Retry or a Short may not have To and From are looked at.
	{api.Head{Kind: api.Retry, To: 256, Size: 1}, api.ErrRange},
	{api.Head{Kind: api.Retry, From: -1, Number: 1}, api.ErrRange},
	{api.Head{Kind: api.Short, From: 256, Size: 1}, api.ErrRange},
	{api.Head{Kind: api.Short, From: -1, Size: 1}, api.ErrRange},
	{api.Head{Kind: api.Short, From: math.MinInt, Size: 1}, api.ErrRange},
	{api.Head{Kind: api.Retry, Size: 1}, api.ErrForm},
	{api.Head{Kind: api.Retry, Size: -1}, api.ErrForm},
	{api.Head{Kind: api.Retry, Size: 5}, api.ErrForm},
	{api.Head{Kind: api.Retry, Number: 1}, api.ErrForm},
	{api.Head{Kind: api.Retry, Number: -1}, api.ErrForm},
	{api.Head{Kind: api.Retry, Number: math.MaxInt}, api.ErrForm},
	{api.Head{Kind: api.Retry, Size: 1, Number: 256}, api.ErrForm},
	{api.Head{Kind: api.Short, From: 1, Size: 0}, api.ErrRange},
	{api.Head{Kind: api.Short, From: 1, Size: 1, Number: 256}, api.ErrRange},
	{api.Head{Kind: api.Short, Token: []byte{1}, Size: 5}, api.ErrRange},
	{api.Head{Kind: api.Short, From: 1, Size: 1}, api.ErrForm},
	{api.Head{Kind: api.Short, From: 255, Size: 1}, api.ErrForm},
	{api.Head{Kind: api.Short, Token: []byte{1}, Size: 1}, api.ErrForm},
	{api.Head{Kind: api.Short, Token: some(120), Size: 4}, api.ErrForm},
}

// TestCheck: P5.1, heads that may be, and such as may not be.
func TestCheck(t *testing.T) {
	for _, c := range written {
		if e := Check(c.h); e != api.OK {
			t.Errorf("Check(%v) = %d, want 0", c.h, e)
		}
	}
	for _, c := range bad {
		if e := Check(c.h); e != c.e {
			t.Errorf("Check(%v) = %d, want %d", c.h, e, c.e)
		}
	}
	if e := Check(api.Head{Kind: api.Short, Token: []byte{}, Size: 1}); e != api.OK {
		t.Errorf("Check of a Short head with an empty token = %d, want 0", e)
	}
}

// TestCheckAddresses: P5.1, To and From of each kind at and behind their bounds.
func TestCheckAddresses(t *testing.T) {
	for _, kind := range []int{api.Initial, api.Retry, api.Short} {
		for _, n := range []int{0, 1, 254, 255, 256, 257, -1, -256, math.MinInt, math.MaxInt} {
			h := api.Head{Kind: kind}
			if kind != api.Retry {
				h.Size = 1
			}
			want := api.OK
			if n < 0 || n > 255 {
				want = api.ErrRange
			}
			h.To = n
			if e := Check(h); e != want {
				t.Errorf("Check(%v) = %d, want %d", h, e, want)
			}
			if kind == api.Short && n != 0 && want == api.OK {
				want = api.ErrForm
			}
			h.To, h.From = 0, n
			if e := Check(h); e != want {
				t.Errorf("Check(%v) = %d, want %d", h, e, want)
			}
		}
	}
}

// TestCheckNumber: P5.1, Numbers at and behind what each Size can hold, and Sizes that there are not.
func TestCheckNumber(t *testing.T) {
	sizes := []int{-1, 0, 1, 2, 3, 4, 5, 8, 64, -8, math.MinInt, math.MaxInt}
	for _, kind := range []int{api.Initial, api.Short} {
		for _, size := range sizes {
			for _, n := range []int{0, 1, 255, 256, 1<<16 - 1, 1 << 16, 1<<24 - 1, 1 << 24, 1<<32 - 1, 1 << 32, 1 << 40, -1, -255, math.MinInt, math.MaxInt} {
				want := api.ErrRange
				if size >= 1 && size <= 4 && n >= 0 && n < 1<<(8*size) {
					want = api.OK
				}
				h := api.Head{Kind: kind, Number: n, Size: size}
				if e := Check(h); e != want {
					t.Errorf("Check(%v) = %d, want %d", h, e, want)
				}
			}
		}
	}
}

// TestEncode: P5.2, the bytes of each kind of head.
func TestEncode(t *testing.T) {
	for _, c := range written {
		if b, e := Encode(c.h); !bytes.Equal(b, c.b) || e != api.OK {
			t.Errorf("Encode(%v) = %v, %d, want %v, 0", c.h, b, e, c.b)
		}
	}
}

// TestEncodeRefuses: P5.2, what Check refuses, and no bytes with it.
func TestEncodeRefuses(t *testing.T) {
	for _, c := range bad {
		if b, e := Encode(c.h); len(b) != 0 || e != c.e {
			t.Errorf("Encode(%v) = %v, %d, want none, %d", c.h, b, e, c.e)
		}
	}
}

// TestDecode: P5.3, the heads of the bytes that are written, whatever stands behind them.
func TestDecode(t *testing.T) {
	for _, c := range written {
		for _, behind := range [][]byte{nil, {0}, {128}, some(200)} {
			b := join(c.b, behind)
			h, n, e := Decode(b)
			if !same(h, c.h) || n != len(c.b) || e != api.OK {
				t.Errorf("Decode(%v) = %v, %d, %d, want %v, %d, 0", b, h, n, e, c.h, len(c.b))
			}
		}
	}
}

// TestDecodeLong: P5.3 and P1.3, lengths of tokens in more bytes than they need.
func TestDecodeLong(t *testing.T) {
	for _, c := range []struct {
		b []byte
		h api.Head
	}{
		{[]byte{192, 5, 6, 0x40, 2, 97, 98, 7}, initial([]byte("ab"))},
		{[]byte{192, 5, 6, 0x80, 0, 0, 2, 97, 98, 7}, initial([]byte("ab"))},
		{[]byte{192, 5, 6, 0xc0, 0, 0, 0, 0, 0, 0, 2, 97, 98, 7}, initial([]byte("ab"))},
		{[]byte{192, 5, 6, 0xc0, 0, 0, 0, 0, 0, 0, 0, 7}, initial(nil)},
		{[]byte{240, 5, 6, 0x40, 0}, retry(nil)},
		{join([]byte{240, 5, 6, 0x80, 0, 0, 120}, some(120)), retry(some(120))},
	} {
		if h, n, e := Decode(c.b); !same(h, c.h) || n != len(c.b) || e != api.OK {
			t.Errorf("Decode(%v) = %v, %d, %d, want %v, %d, 0", c.b, h, n, e, c.h, len(c.b))
		}
	}
}

// TestDecodeEachFirst: P5.3, each first byte with enough behind it: a head of its kind and size, or none.
func TestDecodeEachFirst(t *testing.T) {
	behind := []byte{1, 2, 0, 4, 5, 6, 7, 8}
	for first := range 256 {
		var want api.Head
		used, code := 0, api.OK
		switch {
		case first >= 64 && first < 68:
			want, used = api.Head{Kind: api.Short, To: 1, Size: first - 63}, first-61
			want.Number = []int{2, 0x0200, 0x020004, 0x02000405}[first-64]
		case first >= 192 && first < 196:
			want, used = api.Head{Kind: api.Initial, To: 1, From: 2, Size: first - 191}, first-187
			want.Number = []int{4, 0x0405, 0x040506, 0x04050607}[first-192]
		case first == 240:
			want, used = api.Head{Kind: api.Retry, To: 1, From: 2}, 4
		default:
			code = api.ErrKind
		}
		h, n, e := Decode(join([]byte{byte(first)}, behind))
		if !same(h, want) || n != used || e != code {
			t.Errorf("Decode of first byte %d = %v, %d, %d, want %v, %d, %d", first, h, n, e, want, used, code)
		}
		// That there is no such head is told though nothing stands behind.
		if h, n, e := Decode([]byte{byte(first)}); !same(h, api.Head{}) || n != 0 || (e == api.ErrKind) != (code == api.ErrKind) || e == api.OK {
			t.Errorf("Decode([%d]) = %v, %d, %d", first, h, n, e)
		}
	}
}

// TestDecodeRefuses: P5.3, what is wrong first, and nothing else, is told.
func TestDecodeRefuses(t *testing.T) {
	for _, c := range []struct {
		b []byte
		e api.Errno
	}{
		{nil, api.ErrShort},
		{[]byte{}, api.ErrShort},
		{[]byte{0}, api.ErrKind},
		{[]byte{128}, api.ErrKind},
		{[]byte{241, 5}, api.ErrKind},
		{[]byte{64}, api.ErrShort},
		{[]byte{64, 5}, api.ErrShort},
		{[]byte{192}, api.ErrShort},
		{[]byte{192, 5}, api.ErrShort},
		{[]byte{192, 5, 6}, api.ErrShort},
		{[]byte{240}, api.ErrShort},
		{[]byte{240, 5}, api.ErrShort},
		{[]byte{240, 5, 6}, api.ErrShort},
		{[]byte{192, 5, 6, 0x40}, api.ErrShort},
		{[]byte{192, 5, 6, 0xff, 0xff}, api.ErrShort},
		// A token that is too long is told as soon as its length is read.
		{[]byte{192, 5, 6, 0x40, 121}, api.ErrSize},
		{[]byte{240, 5, 6, 0x40, 121}, api.ErrSize},
		{[]byte{240, 5, 6, 255, 255, 255, 255, 255, 255, 255, 255}, api.ErrSize},
		{join([]byte{192, 5, 6, 0x40, 121}, some(200)), api.ErrSize},
		{join([]byte{240, 5, 6, 0x40, 121}, some(121)), api.ErrSize},
		{[]byte{192, 5, 6, 0x40, 120}, api.ErrShort},
		{join([]byte{240, 5, 6, 0x40, 120}, some(119)), api.ErrShort},
		{[]byte{192, 5, 6, 2, 97}, api.ErrShort},
		{[]byte{192, 5, 6, 2, 97, 98}, api.ErrShort},
		{[]byte{195, 5, 6, 0, 1, 2, 3}, api.ErrShort},
		{[]byte{67, 5, 1, 2, 3}, api.ErrShort},
	} {
		if h, n, e := Decode(c.b); !same(h, api.Head{}) || n != 0 || e != c.e {
			t.Errorf("Decode(%v) = %v, %d, %d, want zeros, %d", c.b, h, n, e, c.e)
		}
	}
}

// TestDecodeShort: P5.3, each head that ends too early, though there is spare room behind it.
func TestDecodeShort(t *testing.T) {
	for _, c := range written {
		for n := range c.b {
			if h, used, e := Decode(c.b[:n]); !same(h, api.Head{}) || used != 0 || e != api.ErrShort {
				t.Errorf("Decode(%v) = %v, %d, %d, want zeros, %d", c.b[:n], h, used, e, api.ErrShort)
			}
		}
	}
}

// TestDecodeSmall: P5.1 to P5.3, whatever bytes there are: what is read may be, and is read again from its own bytes.
func TestDecodeSmall(t *testing.T) {
	alphabet := []byte{0, 1, 2, 64, 65, 67, 120, 121, 128, 192, 193, 195, 240, 255}
	var read func(b []byte, more int)
	read = func(b []byte, more int) {
		h, n, e := Decode(b)
		if e != api.OK && (n != 0 || !same(h, api.Head{})) {
			t.Fatalf("Decode(%v) = %v, %d with %d, want zeros", b, h, n, e)
		}
		if e == api.OK {
			back, e := Encode(h)
			if n < 1 || n > len(b) || len(back) > n || e != api.OK {
				t.Fatalf("Decode(%v) = %v, %d; Encode of that = %v, %d", b, h, n, back, e)
			}
			if again, m, e := Decode(back); !same(again, h) || m != len(back) || e != api.OK {
				t.Fatalf("Decode(%v) = %v, %d, %d, want %v, %d, 0", back, again, m, e, h, len(back))
			}
		}
		for i := 0; i < len(alphabet) && more > 0; i++ {
			read(append(b, alphabet[i]), more-1)
		}
	}
	read(make([]byte, 0, 8), 5)
}

// TestNewMemory: what is handed in stays as it is, its spare room too, and no answer shares memory with it or with another one.
func TestNewMemory(t *testing.T) {
	for _, c := range written {
		room := join(c.b, []byte{77, 78})
		kept := bytes.Clone(room)
		first, _, _ := Decode(room[:len(c.b)])
		second, _, _ := Decode(room[:len(c.b)])
		for i := range first.Token[:cap(first.Token)] {
			first.Token[:cap(first.Token)][i] ^= 255
		}
		if !bytes.Equal(room, kept) || !same(second, c.h) {
			t.Errorf("Decode(%v) changes, or shares, what was handed in, or two answers share memory", c.b)
		}
		clear(room)
		if !same(second, c.h) {
			t.Errorf("Decode(%v) keeps what was handed in", c.b)
		}
		h := c.h
		room = join(c.h.Token, []byte{77, 78})
		kept = bytes.Clone(room)
		h.Token = room[:len(c.h.Token)]
		Check(h)
		one, _ := Encode(h)
		two, _ := Encode(h)
		for i := range one[:cap(one)] {
			one[:cap(one)][i] ^= 255
		}
		if !bytes.Equal(room, kept) || !bytes.Equal(two, c.b) {
			t.Errorf("Encode(%v) changes, or shares, what was handed in, or two answers share memory", c.h)
		}
	}
}
