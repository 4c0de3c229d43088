package gate

import (
	"bytes"
	"math"
	"slices"
	"testing"

	"spillway/api"
	"spillway/lock"
)

// TestKeys: P19.1, all keys.
func TestKeys(t *testing.T) {
	for _, c := range []struct{ got, want uint64 }{
		{First(2), 0xbcd9dbb49673066b}, // as P6.2 has it
		{First(0), lock.Mix(lock.Mix(1))},
		{First(255), lock.Mix(lock.Mix(1) ^ 255)},
		{First(-1), lock.Mix(^lock.Mix(1))},
		{Session(1, 2), 0xe06dd043328bd285},
		{Session(0, 0), lock.Mix(lock.Mix(0))},
		{Session(lock.Mix(7), 7), 0xe220a8397b1dcdaf},
		{Session(2, 1), lock.Mix(2 ^ 0x910a2dec89025cc1)},
		{Way(0, true), 0xe220a8397b1dcdaf},
		{Way(1, true), 0x910a2dec89025cc1},
		{Way(math.MaxUint64, false), 0xe220a8397b1dcdaf},
		{Way(math.MaxUint64-1, false), 0x910a2dec89025cc1},
		{Way(5, false), lock.Mix(0xfffffffffffffffa)},
	} {
		if c.got != c.want {
			t.Errorf("%x, want %x", c.got, c.want)
		}
	}
}

// TestWord: P19.1, the first eight bytes, the highest one first.
func TestWord(t *testing.T) {
	for _, c := range []struct {
		b    []byte
		want uint64
	}{
		{nil, 0},
		{[]byte{}, 0},
		{[]byte{7}, 7},
		{[]byte{1, 2}, 258},
		{[]byte{0, 0, 0, 9}, 9},
		{[]byte{1, 2, 3, 4, 5, 6, 7}, 0x01020304050607},
		{[]byte{1, 2, 3, 4, 5, 6, 7, 8}, 0x0102030405060708},
		{[]byte{255, 2, 3, 4, 5, 6, 7, 8, 9}, 0xff02030405060708},
		{bytes.Repeat([]byte{255}, 500), math.MaxUint64},
	} {
		if got := Word(c.b); got != c.want {
			t.Errorf("Word(%v) = %x, want %x", c.b, got, c.want)
		}
	}
}

// packed is a packet, by its parts.
func packed(key uint64, number int, head, text []byte) []byte {
	return append(bytes.Clone(head), lock.Seal(key, number, head, text)...)
}

// written frames, and what they are as bytes.
var writtenFrames = []api.Frame{{Kind: api.Ping}, {Kind: api.Stream, Id: 3, Off: 70, Fin: true, Data: []byte("ab")}, {Kind: api.Done}}

var writtenBytes = []byte{1, 15, 3, 64, 70, 2, 'a', 'b', 30}

// TestPacket: P19.2, the head, and sealed behind it all frames; and P19.3, what comes of it again.
func TestPacket(t *testing.T) {
	token := []byte("xyz")
	for _, c := range []struct {
		h             api.Head
		number, acked int
		top           int // by which it is made whole
		l             []api.Frame
		head, text    []byte
	}{
		{api.Head{Kind: api.Short, To: 3}, 0, -1, -1, nil, []byte{64, 3, 0}, nil},
		{api.Head{Kind: api.Short, To: 3}, 300, 250, 299, writtenFrames, []byte{64, 3, 44}, writtenBytes},
		{api.Head{Kind: api.Short, To: 255}, 127, -1, -1, writtenFrames, []byte{64, 255, 127}, writtenBytes},
		{api.Head{Kind: api.Short}, 128, -1, 20, writtenFrames, []byte{65, 0, 0, 128}, writtenBytes},
		{api.Head{Kind: api.Short}, 70000, 40000, 69999, writtenFrames, []byte{65, 0, 17, 112}, writtenBytes},
		{api.Head{Kind: api.Short}, 70000, 2, 69999, writtenFrames, []byte{66, 0, 1, 17, 112}, writtenBytes},
		{api.Head{Kind: api.Short}, 1 << 24, 2, 1 << 20, writtenFrames, []byte{67, 0, 1, 0, 0, 0}, writtenBytes},
		{api.Head{Kind: api.Short}, api.MaxVar, api.MaxVar - 1, api.MaxVar - 9, writtenFrames, []byte{64, 0, 255}, writtenBytes},
		{api.Head{Kind: api.Short}, api.MaxVar, api.MaxVar - 1<<31, api.MaxVar - 9, nil, []byte{67, 0, 255, 255, 255, 255}, nil},
		// What Size and Number were counts for nothing.
		{api.Head{Kind: api.Short, Size: 9, Number: -4}, 300, 250, 299, writtenFrames, []byte{64, 0, 44}, writtenBytes},
		{api.Head{Kind: api.Initial, To: 5, From: 7, Token: token, Size: -1, Number: 70000}, 2, 1, 1, writtenFrames[:1], []byte{192, 5, 7, 3, 'x', 'y', 'z', 2}, []byte{1}},
		{api.Head{Kind: api.Initial, From: 255}, 1000, 2, 999, writtenFrames, []byte{193, 0, 255, 0, 3, 232}, writtenBytes},
	} {
		for _, key := range []uint64{0, 5, math.MaxUint64} {
			want := packed(key, c.number, c.head, c.text)
			b, e := Packet(key, c.h, c.number, c.acked, c.l)
			if !bytes.Equal(b, want) || e != api.OK {
				t.Errorf("Packet(%v, %d, %d) = %v, %d, want %v", c.h, c.number, c.acked, b, e, want)
			}
			h := c.h
			h.Size, h.Number = int(c.head[0]&3)+1, int(Word(c.head[len(c.head)-int(c.head[0]&3)-1:]))
			n, l, e := Unpack(key, h, len(c.head), c.top, want)
			if n != c.number || !same(l, c.l) || e != api.OK {
				t.Errorf("Unpack(%v, %d) = %d, %v, %d, want %d, %v", h, c.top, n, l, e, c.number, c.l)
			}
		}
	}
}

// TestPacketSize: P19.2, as long as may be, and one byte longer; however many frames.
func TestPacketSize(t *testing.T) {
	h := api.Head{Kind: api.Short}
	for _, c := range []struct {
		number, acked, size int // of frames
		e                   api.Errno
	}{
		{0, -1, 389, api.OK}, // 3 and 389 and 8
		{0, -1, 390, api.ErrSize},
		{128, -1, 388, api.OK},
		{128, -1, 389, api.ErrSize},
		{1 << 30, -1, 386, api.OK},
		{1 << 30, -1, 387, api.ErrSize},
		{0, -1, 4000, api.ErrSize},
	} {
		l := make([]api.Frame, c.size) // Padding
		b, e := Packet(9, h, c.number, c.acked, l)
		if e != c.e || e == api.OK && len(b) != api.MaxPacket || e != api.OK && len(b) != 0 {
			t.Errorf("Packet of %d bytes = %d bytes, %d, want %d", c.size, len(b), e, c.e)
		}
		b, e = Packet(9, api.Head{Kind: api.Initial, Token: text(100)}, c.number, c.acked, l[:max(0, c.size-103)])
		if e != c.e && c.size < 4000 || e != api.OK && len(b) != 0 {
			t.Errorf("Packet of a token and %d bytes = %d bytes, %d, want %d", c.size-103, len(b), e, c.e)
		}
	}
}

// TestPacketRefuses: P19.2, what is refused, and what first.
func TestPacketRefuses(t *testing.T) {
	ok := api.Head{Kind: api.Short}
	noKind := api.Frame{Kind: 3}
	tooMuch := api.Frame{Kind: api.Token, Data: text(api.MaxData + 1)}
	long := make([]api.Frame, 500)
	for i, c := range []struct {
		h             api.Head
		number, acked int
		l             []api.Frame
		e             api.Errno
	}{
		{api.Head{Kind: 3}, -1, -1, []api.Frame{noKind}, api.ErrRange},
		{api.Head{Kind: 3}, api.MaxVar + 1, api.MaxVar, nil, api.ErrRange},
		{api.Head{Kind: 3}, 0, 0, nil, api.ErrRange},
		{api.Head{Kind: 3}, 0, -2, nil, api.ErrRange},
		{api.Head{Kind: 3}, 1 << 31, -1, nil, api.ErrRange},
		{api.Head{Kind: 3, Token: text(121)}, 1, 0, []api.Frame{noKind}, api.ErrKind},
		{api.Head{Kind: -1}, 1, 0, nil, api.ErrKind},
		{api.Head{Kind: api.Initial, Token: text(121), To: 256}, 1, 0, []api.Frame{noKind}, api.ErrSize},
		{api.Head{Kind: api.Initial, To: 256}, 1, 0, []api.Frame{noKind}, api.ErrRange},
		{api.Head{Kind: api.Initial, From: -1}, 1, 0, []api.Frame{noKind}, api.ErrRange},
		{api.Head{Kind: api.Short, From: 1}, 1, 0, []api.Frame{noKind}, api.ErrForm},
		{api.Head{Kind: api.Short, Token: text(1)}, 1, 0, []api.Frame{noKind}, api.ErrForm},
		// A Retry has no number.
		{api.Head{Kind: api.Retry}, 0, -1, []api.Frame{noKind}, api.ErrForm},
		{api.Head{Kind: api.Retry, Token: text(3)}, 1, 0, nil, api.ErrForm},
		{ok, 1, 0, []api.Frame{noKind, tooMuch}, api.ErrKind},
		{ok, 1, 0, []api.Frame{{}, tooMuch, noKind}, api.ErrSize},
		{ok, 1, 0, []api.Frame{{Kind: api.Stream, Id: -1}}, api.ErrRange},
		{ok, 1, 0, []api.Frame{{Kind: api.Ping, Fin: true}}, api.ErrForm},
		{ok, 1, 0, append(slices.Clone(long), noKind), api.ErrKind},
		{ok, 1, 0, long, api.ErrSize},
	} {
		if b, e := Packet(1, c.h, c.number, c.acked, c.l); len(b) != 0 || e != c.e {
			t.Errorf("case %d: Packet = %v, %d, want %d", i, b, e, c.e)
		}
	}
}

// TestUnpackRefuses: P19.3, what is refused, and what first.
func TestUnpackRefuses(t *testing.T) {
	head := []byte{64, 3, 44}
	good := packed(5, 300, head, writtenBytes)
	h := api.Head{Kind: api.Short, To: 3, Number: 44, Size: 1}
	for _, size := range append(outside(4), 0) {
		h := h
		h.Size = size
		if n, l, e := Unpack(5, h, 3, -2, good); n != 0 || len(l) != 0 || e != api.ErrRange {
			t.Errorf("Unpack with Size %d = %d, %v, %d, want ErrRange", size, n, l, e)
		}
	}
	for _, used := range outside(len(good)) {
		if n, l, e := Unpack(5, h, used, 299, good); n != 0 || len(l) != 0 || e != api.ErrRange {
			t.Errorf("Unpack with %d used = %d, %v, %d, want ErrRange", used, n, l, e)
		}
	}
	for _, top := range []int{math.MinInt, -3, -2, api.MaxVar + 1, math.MaxInt} {
		if n, l, e := Unpack(5, h, 3, top, nil); n != 0 || len(l) != 0 || e != api.ErrRange {
			t.Errorf("Unpack with top %d = %d, %v, %d, want ErrRange", top, n, l, e)
		}
		if n, l, e := Unpack(5, h, 3, top, good[:4]); n != 0 || len(l) != 0 || e != api.ErrRange {
			t.Errorf("Unpack with top %d = %d, %v, %d, want ErrRange", top, n, l, e)
		}
	}
	turned := func(i int) []byte {
		b := bytes.Clone(good)
		b[i] ^= 16
		return b
	}
	for i, c := range []struct {
		key       uint64
		used, top int
		b         []byte
		e         api.Errno
	}{
		{5, 3, 299, good, api.OK},
		{5, 0, -1, nil, api.ErrShort},
		{5, 3, 299, good[:3], api.ErrShort},
		{5, 3, 299, good[:10], api.ErrShort},
		{5, 3, 299, good[:11], api.ErrSeal},
		{5, len(good) - 8, 299, good, api.ErrSeal},
		{5, len(good) - 7, 299, good, api.ErrShort},
		{5, len(good), 299, good, api.ErrShort},
		{5, 2, 299, good, api.ErrSeal},
		{5, 4, 299, good, api.ErrSeal},
		{6, 3, 299, good, api.ErrSeal},
		{5, 3, -1, good, api.ErrSeal}, // number 44
		{5, 3, 427, good, api.ErrSeal},
		{5, 3, 426, good, api.OK},
		{5, 3, 171, good, api.OK},
		{5, 3, 170, good, api.ErrSeal},
		{5, 3, 299, append(bytes.Clone(good), 0), api.ErrSeal},
		{5, 3, 299, turned(0), api.ErrSeal},
		{5, 3, 299, turned(2), api.ErrSeal},
		{5, 3, 299, turned(3), api.ErrSeal},
		{5, 3, 299, turned(len(good) - 1), api.ErrSeal},
		// What frames are refused for, if the seal is good.
		{5, 3, 299, packed(5, 300, head, []byte{1, 3}), api.ErrKind},
		{5, 3, 299, packed(5, 300, head, []byte{1, 7, 2, 9}), api.ErrShort},
		{5, 3, 299, packed(5, 300, head, []byte{7, 64, 121}), api.ErrSize},
		{5, 3, 299, packed(5, 300, head, make([]byte, 12)), api.OK},
		{5, 3, 299, packed(5, 300, head, make([]byte, 13)), api.ErrFull},
		{5, 3, 299, packed(5, 300, head, nil), api.OK},
		// The bytes that were used count, not what the head tells of.
		{5, 0, 299, packed(5, 300, nil, []byte{1}), api.OK},
		{5, 5, 299, packed(5, 300, []byte("hello"), []byte{1}), api.OK},
	} {
		n, l, e := Unpack(c.key, h, c.used, c.top, c.b)
		if e != c.e || e == api.OK && n != 300 || e != api.OK && (n != 0 || len(l) != 0) {
			t.Errorf("case %d: Unpack = %d, %v, %d, want %d", i, n, l, e, c.e)
		}
	}
}

// TestUnpackNumber: P19.3, as many bytes of a number as Size tells, whatever stands above them; whatever is read from the head beside them.
func TestUnpackNumber(t *testing.T) {
	for i, c := range []struct {
		size, number, top, want int
	}{
		{1, 0, -1, 0},
		{1, 255, -1, 255},
		{4, 1<<32 - 1, -1, 1<<32 - 1},
		{1, 7, 1000, 1031},
		{2, 7, 1000, 7},
		{2, 7, 70000, 65543},
		{3, 7, 70000, 7},
		{1, 300, -1, 44},
		{2, 1<<40 + 300, -1, 300},
		{1, -1, -1, 255},
		{2, -2, -1, 65534},
		{4, math.MinInt + 5, -1, 5},
		{1, 0, api.MaxVar, api.MaxVar + 1},
		{1, 255, api.MaxVar, api.MaxVar},
	} {
		for _, h := range []api.Head{{Kind: api.Short}, {Kind: 77, To: -4, From: 900, Token: text(3)}} {
			h.Size, h.Number = c.size, c.number
			n, l, e := Unpack(3, h, 1, c.top, packed(3, c.want, []byte{9}, []byte{1, 1}))
			if n != c.want || len(l) != 2 || e != api.OK {
				t.Errorf("case %d: Unpack = %d, %v, %d, want %d", i, n, l, e, c.want)
			}
		}
	}
}

// TestPacketNewMemory: what is handed in stays as it is, and answers share nothing.
func TestPacketNewMemory(t *testing.T) {
	h := spacious(api.Head{Kind: api.Initial, Token: text(5)})
	l := spacious([]api.Frame{{Kind: api.Token, Data: text(4)}, {Kind: api.Ack, Ranges: []api.Range{{Lo: 1, Hi: 4}}}, {Kind: api.Hello, Data: text(8)}})
	beforeH, beforeL := deep(h), deep(l)
	b, e := Packet(1, h, 2, -1, l)
	again, f := Packet(1, h, 2, -1, l)
	if e != api.OK || f != api.OK || !bytes.Equal(b, again) || sharing(h, l, b, again) {
		t.Errorf("Packet = %v, %d, and then %v, %d", b, e, again, f)
	}
	h.Size, h.Number = 1, 2
	b = spacious(b)
	_, k, e := Unpack(1, h, 10, 1, b)
	_, m, f := Unpack(1, h, 10, 1, b)
	if e != api.OK || f != api.OK || !same(k, m) || !same(k, beforeL) || sharing(h, l, b, k, m) || !bytes.Equal(b, again) || !spare(b) {
		t.Errorf("Unpack = %v, %d, and then %v, %d", k, e, m, f)
	}
	h.Size, h.Number = 0, 0
	if !same(h, beforeH) || !same(l, beforeL) || !spare(h) || !spare(l) {
		t.Error("what is handed in is changed")
	}
}
