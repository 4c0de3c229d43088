package frame

import (
	"bytes"
	"math"
	"slices"
	"testing"

	"spillway/api"
)

// span of numbers.
func span(hi, lo int) api.Range {
	return api.Range{Lo: lo, Hi: hi}
}

// spans of numbers, told as their ends: hi, lo, hi, lo ..
func spans(ends ...int) []api.Range {
	var l []api.Range
	for i := 0; i < len(ends); i += 2 {
		l = append(l, span(ends[i], ends[i+1]))
	}
	return l
}

// apart are so many ranges of one number each, the highest one first.
func apart(n int) []api.Range {
	var l []api.Range
	for i := n; i > 0; i-- {
		l = append(l, span(2*i, 2*i))
	}
	return l
}

// join bytes.
func join(l ...[]byte) []byte {
	return slices.Concat(l...)
}

// same frames, be their empty lists nil or not.
func same(f, g api.Frame) bool {
	return f.Kind == g.Kind && f.Id == g.Id && f.Off == g.Off && f.Fin == g.Fin && f.Code == g.Code &&
		slices.Equal(f.Ranges, g.Ranges) && bytes.Equal(f.Data, g.Data)
}

// sameAll frames.
func sameAll(l, m []api.Frame) bool {
	return slices.EqualFunc(l, m, same)
}

// kinds of frames, and what each has: i, o, f, c, d and r are Id, Off, Fin, Code, Data and Ranges.
var kinds = map[int]string{
	0: "", 1: "", 2: "r", 4: "ioc", 5: "ic", 6: "od", 7: "d", 8: "iofd", 16: "o", 17: "io", 18: "o",
	26: "c", 27: "c", 28: "c", 30: "",
}

// plain frame of a kind: no more than has to be there.
func plain(kind int) api.Frame {
	f := api.Frame{Kind: kind}
	if kind == api.Ack {
		f.Ranges = spans(0, 0)
	}
	return f
}

// withNumber is a plain frame with an i, o or c.
func withNumber(kind int, part byte, n int) api.Frame {
	f := plain(kind)
	switch part {
	case 'i':
		f.Id = n
	case 'o':
		f.Off = n
	case 'c':
		f.Code = n
	}
	return f
}

// has a kind this part?
func has(kind int, part byte) bool {
	return bytes.IndexByte([]byte(kinds[kind]), part) >= 0
}

// written are frames that may be, and their bytes.
var written = []struct {
	f api.Frame
	b []byte
}{
	{api.Frame{Kind: api.Padding}, []byte{0}},
	{api.Frame{Kind: api.Ping}, []byte{1}},
	{api.Frame{Kind: api.Done}, []byte{30}},
	{api.Frame{Kind: api.Ack, Ranges: spans(0, 0)}, []byte{2, 0, 0, 0}},
	{api.Frame{Kind: api.Ack, Ranges: spans(9, 9)}, []byte{2, 9, 0, 0}},
	{api.Frame{Kind: api.Ack, Ranges: spans(9, 0)}, []byte{2, 9, 0, 9}},
	{api.Frame{Kind: api.Ack, Ranges: spans(9, 8, 4, 2)}, []byte{2, 9, 1, 1, 2, 2}},
	{api.Frame{Kind: api.Ack, Ranges: spans(2, 2, 0, 0)}, []byte{2, 2, 1, 0, 0, 0}},
	{api.Frame{Kind: api.Ack, Ranges: spans(300, 200, 100, 90, 5, 0)},
		[]byte{2, 0x41, 0x2c, 2, 0x40, 100, 0x40, 98, 10, 0x40, 83, 5}},
	{api.Frame{Kind: api.Ack, Ranges: apart(6)}, []byte{2, 12, 5, 0, 0, 0, 0, 0, 0, 0, 0, 0, 0, 0}},
	{api.Frame{Kind: api.Ack, Ranges: spans(api.MaxVar, 0)},
		[]byte{2, 255, 255, 255, 255, 255, 255, 255, 255, 0, 255, 255, 255, 255, 255, 255, 255, 255}},
	{api.Frame{Kind: api.Ack, Ranges: spans(api.MaxVar, api.MaxVar, 0, 0)},
		[]byte{2, 255, 255, 255, 255, 255, 255, 255, 255, 1, 0, 255, 255, 255, 255, 255, 255, 255, 253, 0}},
	{api.Frame{Kind: api.Reset, Id: 1, Off: 2, Code: 3}, []byte{4, 1, 2, 3}},
	{api.Frame{Kind: api.Reset}, []byte{4, 0, 0, 0}},
	{api.Frame{Kind: api.Reset, Id: 64, Off: 1 << 14, Code: 63}, []byte{4, 0x40, 64, 0x80, 0, 0x40, 0, 63}},
	{api.Frame{Kind: api.Stop, Id: 7, Code: 9}, []byte{5, 7, 9}},
	{api.Frame{Kind: api.Stop, Id: api.MaxVar, Code: 0}, []byte{5, 255, 255, 255, 255, 255, 255, 255, 255, 0}},
	{api.Frame{Kind: api.Hello, Off: 3, Data: []byte("ab")}, []byte{6, 3, 2, 97, 98}},
	{api.Frame{Kind: api.Hello}, []byte{6, 0, 0}},
	{api.Frame{Kind: api.Token, Data: []byte{5}}, []byte{7, 1, 5}},
	{api.Frame{Kind: api.Token, Data: make([]byte, 63)}, join([]byte{7, 63}, make([]byte, 63))},
	{api.Frame{Kind: api.Token, Data: make([]byte, 64)}, join([]byte{7, 0x40, 64}, make([]byte, 64))},
	{api.Frame{Kind: api.Token, Data: bytes.Repeat([]byte{9}, 120)}, join([]byte{7, 0x40, 120}, bytes.Repeat([]byte{9}, 120))},
	{api.Frame{Kind: api.Stream, Id: 4, Off: 100, Fin: true, Data: []byte("ab")}, []byte{15, 4, 64, 100, 2, 97, 98}},
	{api.Frame{Kind: api.Stream, Id: 4, Off: 100, Data: []byte("ab")}, []byte{14, 4, 64, 100, 2, 97, 98}},
	{api.Frame{Kind: api.Stream, Fin: true}, []byte{15, 0, 0, 0}},
	{api.Frame{Kind: api.Stream}, []byte{14, 0, 0, 0}},
	{api.Frame{Kind: api.Stream, Off: api.MaxVar - 1, Data: []byte{1}}, []byte{14, 0, 255, 255, 255, 255, 255, 255, 255, 254, 1, 1}},
	{api.Frame{Kind: api.MaxDataOf, Off: 700}, []byte{16, 0x42, 0xbc}},
	{api.Frame{Kind: api.MaxOf, Id: 1, Off: 300}, []byte{17, 1, 0x41, 0x2c}},
	{api.Frame{Kind: api.MaxIds, Off: 5}, []byte{18, 5}},
	{api.Frame{Kind: api.Challenge, Code: 258}, []byte{26, 0, 0, 0, 0, 0, 0, 1, 2}},
	{api.Frame{Kind: api.Challenge, Code: 0}, []byte{26, 0, 0, 0, 0, 0, 0, 0, 0}},
	{api.Frame{Kind: api.Challenge, Code: 0x0102030405060708}, []byte{26, 1, 2, 3, 4, 5, 6, 7, 8}},
	{api.Frame{Kind: api.Response, Code: 1}, []byte{27, 0, 0, 0, 0, 0, 0, 0, 1}},
	{api.Frame{Kind: api.Response, Code: api.MaxVar}, []byte{27, 63, 255, 255, 255, 255, 255, 255, 255}},
	{api.Frame{Kind: api.Close, Code: 17}, []byte{28, 17}},
	{api.Frame{Kind: api.Close, Code: 258}, []byte{28, 0x41, 2}},
}

// bad are frames that may not be, and why; of several faults the one that is named first.
var bad = []struct {
	f api.Frame
	e api.Errno
}{
	{api.Frame{Kind: 3}, api.ErrKind},
	{api.Frame{Kind: 14}, api.ErrKind},
	{api.Frame{Kind: 15}, api.ErrKind},
	{api.Frame{Kind: -1}, api.ErrKind},
	{api.Frame{Kind: math.MinInt}, api.ErrKind},
	{api.Frame{Kind: math.MaxInt}, api.ErrKind},
	{api.Frame{Kind: 3, Id: -1, Fin: true, Data: make([]byte, 121)}, api.ErrKind},
	{api.Frame{Kind: api.Token, Data: make([]byte, 121)}, api.ErrSize},
	{api.Frame{Kind: api.Stream, Data: make([]byte, 1000)}, api.ErrSize},
	{api.Frame{Kind: api.Ping, Data: make([]byte, 121)}, api.ErrSize},
	{api.Frame{Kind: api.Ping, Id: -1, Data: make([]byte, 121)}, api.ErrSize},
	{api.Frame{Kind: api.Stream, Off: api.MaxVar, Data: make([]byte, 121)}, api.ErrSize},
	{api.Frame{Kind: api.Ack, Ranges: apart(7)}, api.ErrSize},
	{api.Frame{Kind: api.Ack, Off: 1, Ranges: apart(7)}, api.ErrSize},
	{api.Frame{Kind: api.Ping, Ranges: apart(7)}, api.ErrSize},
	{api.Frame{Kind: api.Ack, Ranges: make([]api.Range, 7)}, api.ErrSize},
	{api.Frame{Kind: api.Ping, Off: 1}, api.ErrRange},
	{api.Frame{Kind: api.Ping, Off: 1, Fin: true, Data: []byte{1}}, api.ErrRange},
	{api.Frame{Kind: api.Ack, Id: 1}, api.ErrRange},
	{api.Frame{Kind: api.Ack, Id: 1, Ranges: spans(1, 2)}, api.ErrRange},
	{api.Frame{Kind: api.Hello, Off: api.MaxVar, Data: []byte{1}}, api.ErrRange},
	{api.Frame{Kind: api.Hello, Off: api.MaxVar, Data: []byte{1}, Fin: true}, api.ErrRange},
	{api.Frame{Kind: api.Hello, Off: api.MaxVar - 119, Data: make([]byte, 120)}, api.ErrRange},
	{api.Frame{Kind: api.Stream, Off: api.MaxVar, Data: []byte{1}}, api.ErrRange},
	{api.Frame{Kind: api.Stream, Off: math.MaxInt, Data: make([]byte, 120)}, api.ErrRange},
	{api.Frame{Kind: api.Stream, Off: -120, Data: make([]byte, 120)}, api.ErrRange},
	{api.Frame{Kind: api.Ping, Data: []byte{1}}, api.ErrForm},
	{api.Frame{Kind: api.Ping, Fin: true}, api.ErrForm},
	{api.Frame{Kind: api.Ping, Ranges: spans(1, 1)}, api.ErrForm},
	// No Data belong to a MaxOf: so Off may be as great as it likes.
	{api.Frame{Kind: api.MaxOf, Off: api.MaxVar, Data: []byte{1}}, api.ErrForm},
	{api.Frame{Kind: api.Ack}, api.ErrForm},
	{api.Frame{Kind: api.Ack, Ranges: []api.Range{}}, api.ErrForm},
	{api.Frame{Kind: api.Ack, Ranges: spans(1, 1), Fin: true}, api.ErrForm},
	{api.Frame{Kind: api.Ack, Ranges: spans(1, 1), Data: []byte{1}}, api.ErrForm},
	{api.Frame{Kind: api.Ack, Ranges: spans(1, 2)}, api.ErrForm},
	{api.Frame{Kind: api.Ack, Ranges: spans(2, -1)}, api.ErrForm},
	{api.Frame{Kind: api.Ack, Ranges: spans(-1, -1)}, api.ErrForm},
	{api.Frame{Kind: api.Ack, Ranges: spans(api.MaxVar+1, 3)}, api.ErrForm},
	{api.Frame{Kind: api.Ack, Ranges: spans(math.MinInt, math.MaxInt)}, api.ErrForm},
	{api.Frame{Kind: api.Ack, Ranges: spans(1, 1, 5, 4)}, api.ErrForm},
	{api.Frame{Kind: api.Ack, Ranges: spans(9, 5, 4, 2)}, api.ErrForm},
	{api.Frame{Kind: api.Ack, Ranges: spans(9, 5, 5, 2)}, api.ErrForm},
	{api.Frame{Kind: api.Ack, Ranges: spans(9, 5, 9, 5)}, api.ErrForm},
	{api.Frame{Kind: api.Ack, Ranges: spans(9, 8, 6, 5, 3, -1)}, api.ErrForm},
}

// TestParts: P4.1 and P4.2, of each kind what it has may be there, and nothing else; there are no other kinds.
func TestParts(t *testing.T) {
	for kind := -3; kind < 300; kind++ {
		if _, known := kinds[kind]; !known {
			if e := Check(api.Frame{Kind: kind}); e != api.ErrKind {
				t.Errorf("Check of kind %d = %d, want %d", kind, e, api.ErrKind)
			}
			continue
		}
		if e := Check(plain(kind)); e != api.OK {
			t.Errorf("Check of a plain frame of kind %d = %d, want 0", kind, e)
		}
		for _, part := range []byte("ioc") {
			checkNumber(t, kind, part)
		}
		full, end, told := plain(kind), plain(kind), plain(kind)
		full.Data, end.Fin, told.Ranges = []byte{1}, true, spans(5, 3)
		for part, f := range map[byte]api.Frame{'d': full, 'f': end, 'r': told} {
			want := api.OK
			if !has(kind, part) {
				want = api.ErrForm
			}
			if e := Check(f); e != want {
				t.Errorf("Check(%v) = %d, want %d", f, e, want)
			}
		}
	}
}

// checkNumber: an Id, Off or Code at and behind its bounds.
func checkNumber(t *testing.T, kind int, part byte) {
	for _, n := range []int{0, 1, 63, api.MaxVar - 1, api.MaxVar, api.MaxVar + 1, -1, math.MinInt, math.MaxInt} {
		want := api.OK
		if n != 0 && !has(kind, part) || n < 0 || n > api.MaxVar {
			want = api.ErrRange
		}
		f := withNumber(kind, part, n)
		if e := Check(f); e != want {
			t.Errorf("Check(%v) = %d, want %d", f, e, want)
		}
	}
}

// TestCheck: P4.2, frames that may be, at their limits, and such as may not be.
func TestCheck(t *testing.T) {
	for _, c := range written {
		if e := Check(c.f); e != api.OK {
			t.Errorf("Check(%v) = %d, want 0", c.f, e)
		}
	}
	for _, f := range []api.Frame{
		{Kind: api.Hello, Off: api.MaxVar - 120, Data: make([]byte, 120)},
		{Kind: api.Stream, Off: api.MaxVar - 120, Data: make([]byte, 120), Fin: true, Id: api.MaxVar},
		{Kind: api.Stream, Off: api.MaxVar, Data: []byte{}, Ranges: []api.Range{}},
		{Kind: api.Ping, Data: []byte{}, Ranges: []api.Range{}},
		{Kind: api.Ack, Ranges: apart(6)},
		{Kind: api.Ack, Ranges: spans(api.MaxVar, api.MaxVar-1, api.MaxVar-3, 0)},
	} {
		if e := Check(f); e != api.OK {
			t.Errorf("Check(%v) = %d, want 0", f, e)
		}
	}
	for _, c := range bad {
		if e := Check(c.f); e != c.e {
			t.Errorf("Check(%v) = %d, want %d", c.f, e, c.e)
		}
	}
}

// TestEncode: P4.3, the bytes of each kind of frame.
func TestEncode(t *testing.T) {
	for _, c := range written {
		if b, e := Encode(c.f); !bytes.Equal(b, c.b) || e != api.OK {
			t.Errorf("Encode(%v) = %v, %d, want %v, 0", c.f, b, e, c.b)
		}
	}
}

// TestEncodeRefuses: P4.3, what Check refuses, and no bytes with it.
func TestEncodeRefuses(t *testing.T) {
	for _, c := range bad {
		if b, e := Encode(c.f); len(b) != 0 || e != c.e {
			t.Errorf("Encode(%v) = %v, %d, want none, %d", c.f, b, e, c.e)
		}
	}
}

// TestDecode: P4.4, the frames of the bytes that are written, whatever stands behind them.
func TestDecode(t *testing.T) {
	for _, c := range written {
		for _, behind := range [][]byte{nil, {0}, {8, 255}, {255, 255, 255, 255, 255, 255, 255, 255, 255}} {
			f, n, e := Decode(join(c.b, behind))
			if !same(f, c.f) || n != len(c.b) || e != api.OK {
				t.Errorf("Decode(%v and %v) = %v, %d, %d, want %v, %d, 0", c.b, behind, f, n, e, c.f, len(c.b))
			}
		}
	}
}

// TestDecodeLong: P4.4 and P1.3, numbers that have more bytes than they need, of kinds, ranges and lengths, too.
func TestDecodeLong(t *testing.T) {
	for _, c := range []struct {
		b []byte
		f api.Frame
	}{
		{[]byte{0x40, 0}, api.Frame{Kind: api.Padding}},
		{[]byte{0xc0, 0, 0, 0, 0, 0, 0, 1}, api.Frame{Kind: api.Ping}},
		{[]byte{0x40, 15, 0x40, 4, 0x80, 0, 0, 5, 0x40, 2, 97, 98}, api.Frame{Kind: api.Stream, Id: 4, Off: 5, Fin: true, Data: []byte("ab")}},
		{[]byte{0x80, 0, 0, 14, 4, 5, 0xc0, 0, 0, 0, 0, 0, 0, 0}, api.Frame{Kind: api.Stream, Id: 4, Off: 5}},
		{[]byte{0x40, 2, 0x40, 9, 0x40, 1, 0x40, 1, 0x40, 2, 0x40, 2}, api.Frame{Kind: api.Ack, Ranges: spans(9, 8, 4, 2)}},
		{[]byte{0x40, 26, 0, 0, 0, 0, 0, 0, 0, 7}, api.Frame{Kind: api.Challenge, Code: 7}},
		{[]byte{0x40, 28, 0x80, 0, 0, 7}, api.Frame{Kind: api.Close, Code: 7}},
		{[]byte{0x40, 30}, api.Frame{Kind: api.Done}},
	} {
		if f, n, e := Decode(c.b); !same(f, c.f) || n != len(c.b) || e != api.OK {
			t.Errorf("Decode(%v) = %v, %d, %d, want %v, %d, 0", c.b, f, n, e, c.f, len(c.b))
		}
	}
}

// unread are bytes that Decode refuses.
var unread = []struct {
	b []byte
	e api.Errno
}{
	{nil, api.ErrShort},
	{[]byte{}, api.ErrShort},
	{[]byte{0x40}, api.ErrShort},
	// There is no such kind: what stands behind it, or is not there, is not looked at.
	{[]byte{3}, api.ErrKind},
	{[]byte{8}, api.ErrKind},
	{[]byte{0x40, 8}, api.ErrKind},
	{[]byte{8, 0, 0, 0}, api.ErrKind},
	{[]byte{9, 0xff}, api.ErrKind},
	{[]byte{13, 0, 0, 0}, api.ErrKind},
	{[]byte{19, 0}, api.ErrKind},
	{[]byte{29, 0}, api.ErrKind},
	{[]byte{31}, api.ErrKind},
	{[]byte{0x41, 2}, api.ErrKind},
	{[]byte{255, 255, 255, 255, 255, 255, 255, 255}, api.ErrKind},
	// Too many ranges: told as soon as their number is read, ahead of all that is wrong behind it.
	{[]byte{2, 9, 6}, api.ErrSize},
	{[]byte{2, 9, 6, 10}, api.ErrSize},
	{[]byte{2, 9, 0x40, 6}, api.ErrSize},
	{[]byte{2, 20, 6, 0, 0, 0, 0, 0, 0, 0, 0, 0, 0, 0, 0, 0}, api.ErrSize},
	{[]byte{2, 9, 255, 255, 255, 255, 255, 255, 255, 255}, api.ErrSize},
	{[]byte{2, 9, 0x40}, api.ErrShort},
	{[]byte{2, 9, 5}, api.ErrShort},
	// A range's Lo is below 0.
	{[]byte{2, 1, 0, 2}, api.ErrRange},
	{[]byte{2, 1, 5, 2}, api.ErrRange},
	{[]byte{2, 0, 0, 255, 255, 255, 255, 255, 255, 255, 255}, api.ErrRange},
	{[]byte{2, 9, 1, 1, 6, 1}, api.ErrRange},
	{[]byte{2, 9, 1, 1, 6, 0}, api.OK},
	{[]byte{2, 9, 1, 1, 7, 0}, api.ErrRange},
	{[]byte{2, 9, 2, 1, 7, 0}, api.ErrRange},
	{[]byte{2, 1, 1, 1, 0, 0}, api.ErrRange},
	{[]byte{2, 0, 1, 0, 255, 255, 255, 255, 255, 255, 255, 255, 255, 255, 255, 255, 255, 255, 255, 255}, api.ErrRange},
	// The Lo of a range is known only when its length is read.
	{[]byte{2, 9, 1, 1, 63}, api.ErrShort},
	{[]byte{2, 9, 1, 1}, api.ErrShort},
	// Too much Data: told as soon as their length is read.
	{[]byte{7, 0x40, 121}, api.ErrSize},
	{join([]byte{7, 0x40, 121}, make([]byte, 121)), api.ErrSize},
	{[]byte{7, 255, 255, 255, 255, 255, 255, 255, 255}, api.ErrSize},
	{[]byte{6, 0, 0x40, 121}, api.ErrSize},
	{[]byte{14, 0, 0, 0x40, 121}, api.ErrSize},
	{[]byte{15, 0, 255, 255, 255, 255, 255, 255, 255, 255, 0x40, 121}, api.ErrSize},
	{[]byte{7, 0x40, 120}, api.ErrShort},
	{[]byte{7, 0x40}, api.ErrShort},
	{[]byte{14, 4, 0, 2, 97}, api.ErrShort},
	// What Check refuses, when all is read.
	{[]byte{14, 0, 255, 255, 255, 255, 255, 255, 255, 255, 1, 7}, api.ErrRange},
	{[]byte{14, 0, 255, 255, 255, 255, 255, 255, 255, 255, 1}, api.ErrShort},
	{[]byte{14, 0, 255, 255, 255, 255, 255, 255, 255, 255, 0}, api.OK},
	{[]byte{6, 255, 255, 255, 255, 255, 255, 255, 254, 2, 7, 7}, api.ErrRange},
	{[]byte{6, 255, 255, 255, 255, 255, 255, 255, 254, 1, 7, 7}, api.OK},
	{[]byte{26, 64, 0, 0, 0, 0, 0, 0, 0}, api.ErrRange},
	{[]byte{26, 128, 0, 0, 0, 0, 0, 0, 0}, api.ErrRange},
	{[]byte{27, 255, 255, 255, 255, 255, 255, 255, 255}, api.ErrRange},
	{[]byte{27, 127, 255, 255, 255, 255, 255, 255, 255}, api.ErrRange},
	{[]byte{27, 63, 255, 255, 255, 255, 255, 255, 255}, api.OK},
	{[]byte{26, 255, 255, 255, 255, 255, 255, 255}, api.ErrShort},
}

// TestDecodeRefuses: P4.4, what is wrong first, and nothing else, is told.
func TestDecodeRefuses(t *testing.T) {
	for _, c := range unread {
		f, n, e := Decode(c.b)
		if e != c.e {
			t.Errorf("Decode(%v) = %d, want %d", c.b, e, c.e)
		}
		if e != api.OK && (n != 0 || !same(f, api.Frame{})) {
			t.Errorf("Decode(%v) = %v, %d with %d, want zeros", c.b, f, n, e)
		}
	}
}

// TestDecodeShort: P4.4, each frame that ends too early, though there is spare room behind it.
func TestDecodeShort(t *testing.T) {
	for _, c := range written {
		for n := range c.b {
			if f, used, e := Decode(c.b[:n]); !same(f, api.Frame{}) || used != 0 || e != api.ErrShort {
				t.Errorf("Decode(%v) = %v, %d, %d, want zeros, %d", c.b[:n], f, used, e, api.ErrShort)
			}
		}
	}
}

// TestDecodeSmall: P4.3 and P4.4, whatever bytes there are: what is read may be, and is read again from its own bytes.
func TestDecodeSmall(t *testing.T) {
	alphabet := []byte{0, 1, 2, 3, 4, 5, 6, 7, 8, 14, 15, 16, 17, 18, 28, 30, 0x40, 0x80, 0xff}
	list := [][]byte{{}}
	for from, length := 0, 0; length < 4; length++ {
		to := len(list)
		for _, b := range list[from:to] {
			for _, x := range alphabet {
				list = append(list, join(b, []byte{x}))
			}
		}
		from = to
	}
	for _, b := range list {
		f, n, e := Decode(b)
		if e != api.OK {
			if n != 0 || !same(f, api.Frame{}) {
				t.Fatalf("Decode(%v) = %v, %d with %d, want zeros", b, f, n, e)
			}
			continue
		}
		back, e := Encode(f)
		if n < 1 || n > len(b) || len(back) > n || e != api.OK {
			t.Fatalf("Decode(%v) = %v, %d; Encode of that = %v, %d", b, f, n, back, e)
		}
		if again, m, e := Decode(back); !same(again, f) || m != len(back) || e != api.OK {
			t.Fatalf("Decode(%v) = %v, %d, %d, want %v, %d, 0", back, again, m, e, f, len(back))
		}
	}
}

// TestAll: P4.5, none, one and all kinds of frames, up to as many as there may be.
func TestAll(t *testing.T) {
	for _, b := range [][]byte{nil, {}} {
		if l, e := All(b); len(l) != 0 || e != api.OK {
			t.Errorf("All(%v) = %v, %d, want none, 0", b, l, e)
		}
	}
	for from := range written {
		for to := from; to <= min(len(written), from+api.MaxFrames); to++ {
			var b []byte
			var want []api.Frame
			for _, c := range written[from:to] {
				b, want = append(b, c.b...), append(want, c.f)
			}
			if l, e := All(b); !sameAll(l, want) || e != api.OK {
				t.Errorf("All(%v) = %v, %d, want %v, 0", b, l, e, want)
			}
		}
	}
}

// TestAllRefuses: P4.5, the first frame that Decode refuses, wherever it stands; else that there are too many.
func TestAllRefuses(t *testing.T) {
	for _, c := range unread {
		if len(c.b) == 0 || c.e == api.OK {
			continue
		}
		for ahead := range api.MaxFrames + 4 {
			b := join(bytes.Repeat([]byte{1}, ahead), c.b)
			if l, e := All(b); len(l) != 0 || e != c.e {
				t.Errorf("All(%v) = %v, %d, want none, %d", b, l, e, c.e)
			}
		}
	}
	if l, e := All([]byte{1, 8, 2, 9, 6, 1}); len(l) != 0 || e != api.ErrKind {
		t.Errorf("All of two wrong frames = %v, %d, want none, %d", l, e, api.ErrKind)
	}
	for _, one := range []int{0, 1, 30} {
		for n := api.MaxFrames + 1; n < 5*api.MaxFrames; n++ {
			if l, e := All(bytes.Repeat([]byte{byte(one)}, n)); len(l) != 0 || e != api.ErrFull {
				t.Errorf("All of %d frames = %v, %d, want none, %d", n, l, e, api.ErrFull)
			}
		}
	}
	// How many frames there are counts, not how many bytes they have.
	many := bytes.Repeat([]byte{4, 1, 2, 3}, api.MaxFrames)
	if l, e := All(many); len(l) != api.MaxFrames || e != api.OK {
		t.Errorf("All(%v) = %v, %d, want %d, 0", many, l, e, api.MaxFrames)
	}
	if l, e := All(append(many, 0)); len(l) != 0 || e != api.ErrFull {
		t.Errorf("All of %d frames and one = %v, %d, want none, %d", api.MaxFrames, l, e, api.ErrFull)
	}
}

// spoil all that a frame has, spare room too.
func spoil(f api.Frame) {
	for i := range f.Data[:cap(f.Data)] {
		f.Data[:cap(f.Data)][i] ^= 255
	}
	for i := range f.Ranges[:cap(f.Ranges)] {
		f.Ranges[:cap(f.Ranges)][i] = span(-7, -7)
	}
}

// TestDecodeNewMemory: neither what was handed in nor another frame of an answer hangs together with a frame that was read.
func TestDecodeNewMemory(t *testing.T) {
	data := api.Frame{Kind: api.Token, Data: []byte("abc")}
	ack := api.Frame{Kind: api.Ack, Ranges: spans(9, 8, 4, 2)}
	want := []api.Frame{data, ack, data, ack}
	var b []byte
	for _, f := range want {
		one, _ := Encode(f)
		b = append(b, one...)
	}
	kept := bytes.Clone(b)
	for i := range want {
		l, _ := All(b)
		first, _, _ := Decode(b)
		spoil(l[i])
		if !bytes.Equal(b, kept) || !same(first, data) {
			t.Errorf("frame %d of All shares memory with what was handed in, or another answer", i)
		}
		for j := range l {
			if j != i && !same(l[j], want[j]) {
				t.Errorf("frames %d and %d of one answer share memory", i, j)
			}
		}
	}
	f, _, _ := Decode(b)
	clear(b)
	if !same(f, data) {
		t.Errorf("Decode keeps what was handed in")
	}
}

// TestEncodeNewMemory: a frame that is handed in stays as it is, and bytes that are written share nothing with it.
func TestEncodeNewMemory(t *testing.T) {
	for _, c := range written {
		// Spare room behind both lists.
		f := c.f
		f.Data = append(bytes.Clone(c.f.Data), 77, 78)[:len(c.f.Data)]
		f.Ranges = append(slices.Clone(c.f.Ranges), span(5, 5), span(6, 6))[:len(c.f.Ranges)]
		Check(f)
		first, _ := Encode(f)
		second, _ := Encode(f)
		for i := range first[:cap(first)] {
			first[:cap(first)][i] ^= 255
		}
		data, list := f.Data[:len(f.Data)+2], f.Ranges[:len(f.Ranges)+2]
		if !same(f, c.f) || !bytes.HasSuffix(data, []byte{77, 78}) || list[len(f.Ranges)] != span(5, 5) || list[len(f.Ranges)+1] != span(6, 6) {
			t.Errorf("Encode(%v) changes, or shares, what was handed in: %v", c.f, f)
		}
		if !bytes.Equal(second, c.b) {
			t.Errorf("Encode(%v): two answers share memory", c.f)
		}
	}
}
