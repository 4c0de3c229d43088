package space

import (
	"bytes"
	"math"
	"math/rand/v2"
	"slices"
	"testing"

	"spillway/api"
	"spillway/ranges"
)

// set of ranges: two numbers each.
func set(l ...int) []api.Range {
	var s []api.Range
	for i := 0; i < len(l); i += 2 {
		s = append(s, api.Range{Lo: l[i], Hi: l[i+1]})
	}
	return s
}

// evens is a set of so many ranges of one number each, the lowest one first.
func evens(n, from int) []api.Range {
	var s []api.Range
	for i := range n {
		s = append(s, api.Range{Lo: from + 2*i, Hi: from + 2*i})
	}
	return s
}

// frames of a packet, with lists in them.
func frames(text string) []api.Frame {
	return []api.Frame{
		{Kind: api.Ack, Ranges: set(3, 4, 0, 1)},
		{Kind: api.Stream, Id: 2, Off: 7, Fin: true, Data: []byte(text)},
		{Kind: api.Ping},
	}
}

// packet that was sent, as early, as great, and with such frames as its number says.
func packet(number int) api.Parcel {
	return api.Parcel{Number: number, Time: 10 * number, Size: number, Frames: frames(string(rune('a' + number%26)))}
}

func packets(l ...int) []api.Parcel {
	var out []api.Parcel
	for _, n := range l {
		out = append(out, packet(n))
	}
	return out
}

// some packets, as many as are asked for.
func some(n int) []api.Parcel {
	var out []api.Parcel
	for i := range n {
		out = append(out, packet(i))
	}
	return out
}

// sent is a space whose next number is told, with some packets on their way.
func sent(next int, l ...int) api.Space {
	return api.Space{Next: next, Top: -1, Sent: packets(l...)}
}

// topped is a space in which a number was told of.
func topped(s api.Space, top int) api.Space {
	s.Top = top
	return s
}

// heard is a space that has heard of numbers.
func heard(s api.Space, l []api.Range) api.Space {
	s.Heard = l
	return s
}

// leapt is a space in which numbers were left out.
func leapt(s api.Space, l ...int) api.Space {
	s.Skip = l
	return s
}

// timed is a packet that was sent at a time, with a size, and no frames.
func timed(number, time, size int) api.Parcel {
	return api.Parcel{Number: number, Time: time, Size: size}
}

// same: a list without elements may be nil or not.
func sameFrames(a, b []api.Frame) bool {
	return slices.EqualFunc(a, b, func(a, b api.Frame) bool {
		return a.Kind == b.Kind && a.Id == b.Id && a.Off == b.Off && a.Fin == b.Fin && a.Code == b.Code &&
			slices.Equal(a.Ranges, b.Ranges) && bytes.Equal(a.Data, b.Data)
	})
}

func sameParcels(a, b []api.Parcel) bool {
	return slices.EqualFunc(a, b, func(a, b api.Parcel) bool {
		return a.Number == b.Number && a.Time == b.Time && a.Size == b.Size && sameFrames(a.Frames, b.Frames)
	})
}

func same(a, b api.Space) bool {
	return a.Next == b.Next && a.Top == b.Top && sameParcels(a.Sent, b.Sent) &&
		slices.Equal(a.Heard, b.Heard) && slices.Equal(a.Skip, b.Skip)
}

// clone of a space, all its lists too: told apart from the program's own copies, so that they can be held against each other.
func clone(s api.Space) api.Space {
	s.Sent, s.Heard, s.Skip = cloneParcels(s.Sent), slices.Clone(s.Heard), slices.Clone(s.Skip)
	return s
}

func cloneParcels(l []api.Parcel) []api.Parcel {
	var out []api.Parcel
	for _, p := range l {
		p.Frames = cloneFrames(p.Frames)
		out = append(out, p)
	}
	return out
}

func cloneFrames(l []api.Frame) []api.Frame {
	var out []api.Frame
	for _, f := range l {
		f.Ranges, f.Data = slices.Clone(f.Ranges), bytes.Clone(f.Data)
		out = append(out, f)
	}
	return out
}

// goodSpaces are spaces that may be, at all their bounds.
func goodSpaces() []api.Space {
	none := api.Space{Top: -1}
	high := api.Space{Next: api.MaxVar, Top: -1}
	highest := api.Parcel{Number: api.MaxVar - 1, Time: api.MaxTime, Size: api.MaxPacket}
	early := sent(9)
	early.Sent = []api.Parcel{timed(2, 50, 1), timed(4, 0, 0), timed(8, 20, api.MaxPacket)}
	full := api.Space{Next: api.MaxSent, Top: api.MaxSent - 1, Sent: some(api.MaxSent)}
	last := high
	last.Sent = []api.Parcel{highest}
	odd := sent(3)
	odd.Sent = []api.Parcel{{Number: 1, Frames: []api.Frame{{Kind: -7, Off: -1, Data: make([]byte, 500)}}}}
	many := sent(3)
	many.Sent = []api.Parcel{{Number: 1, Frames: make([]api.Frame, 50)}}
	return []api.Space{
		none,
		{Top: -1, Sent: []api.Parcel{}, Heard: []api.Range{}, Skip: []int{}},
		sent(1),
		topped(sent(1), 0),
		topped(sent(9), 8),
		sent(1, 0),
		sent(9, 8),
		sent(9, 0, 1, 2, 3, 4, 5, 6, 7, 8),
		sent(9, 0, 4, 8),
		topped(sent(9, 0, 4, 8), 8),
		topped(sent(9, 0, 4, 8), 3),
		early,
		full,
		high,
		topped(high, api.MaxVar-1),
		last,
		odd,
		many,
		heard(none, set(0, 0)),
		heard(none, set(0, api.MaxVar)),
		heard(none, set(3, 9, api.MaxVar, api.MaxVar)),
		heard(sent(9, 0, 4), evens(api.MaxRanges, 0)),
		heard(sent(9, 0, 4), evens(api.MaxRanges, 7)),
		heard(sent(9, 0, 4), evens(api.MaxRanges-1, api.MaxVar-2*api.MaxRanges)),
		leapt(sent(1), 0),
		leapt(sent(9, 0, 4), 8),
		leapt(sent(9, 6, 8), 0, 1, 2, 3, 4, 5),
		leapt(topped(sent(9, 6, 8), 7), 0, 1, 2, 3, 4, 5),
		leapt(high, 0, 1, 7, 500, api.MaxVar-2, api.MaxVar-1),
		heard(leapt(topped(sent(50, 5, 10, 15), 20), 4, 16, 30), set(1, 2, 7, 7, 9, 30)),
	}
}

// withSent is a space in which packets were sent, which may not be, or not so.
func withSent(l ...api.Parcel) api.Space {
	return api.Space{Next: 9, Top: -1, Sent: l}
}

// badSpaces are spaces that may not be, for one cause each.
func badSpaces() []api.Space {
	bad := []api.Space{
		// Next and Top.
		{Next: -1, Top: -1},
		{Next: -1, Top: -2},
		{Next: math.MinInt, Top: -1},
		{Next: math.MinInt, Top: math.MaxInt},
		{Next: api.MaxVar + 1, Top: -1},
		{Next: math.MaxInt, Top: -1},
		{},
		topped(sent(9), -2),
		topped(sent(9), math.MinInt),
		topped(sent(9), 9),
		topped(sent(9), 10),
		topped(sent(9), math.MaxInt),
		topped(sent(9, 3), 9),
		// Sent.
		{Next: 100, Top: -1, Sent: some(api.MaxSent + 1)},
		{Next: 100, Top: -1, Sent: some(90)},
		sent(9, 9),
		sent(9, 3, 9),
		sent(9, 3, 10),
		sent(0, 0),
		sent(9, 3, 3),
		sent(9, 3, 2),
		sent(9, 1, 5, 5, 8),
		sent(9, 1, 5, 4, 8),
		sent(9, 0, 2, 1),
		withSent(timed(-1, 0, 0)),
		withSent(timed(-1, 0, 0), timed(3, 0, 0)),
		withSent(timed(math.MinInt, 0, 0)),
		withSent(timed(math.MaxInt, 0, 0)),
		withSent(timed(3, -1, 0)),
		withSent(timed(3, math.MinInt, 0)),
		withSent(timed(3, api.MaxTime+1, 0)),
		withSent(timed(3, math.MaxInt, 0)),
		withSent(timed(3, 0, -1)),
		withSent(timed(3, 0, math.MinInt)),
		withSent(timed(3, 0, api.MaxPacket+1)),
		withSent(timed(3, 0, math.MaxInt)),
		withSent(timed(1, 0, 0), timed(3, 0, 0), timed(8, 0, api.MaxPacket+1)),
		withSent(timed(1, -1, 0), timed(3, 0, 0), timed(8, 0, 0)),
		// Heard.
		heard(sent(9), evens(api.MaxRanges+1, 0)),
		heard(sent(9), evens(50, 0)),
		// Skip.
		leapt(sent(20), 0, 1, 2, 3, 4, 5, 6),
		leapt(sent(9), 9),
		leapt(sent(9), 3, 9),
		leapt(sent(0), 0),
		leapt(sent(9), math.MaxInt),
		leapt(sent(9), -1),
		leapt(topped(sent(9), 3), -1, 2),
		leapt(sent(9), math.MinInt),
		leapt(sent(9), 3, 3),
		leapt(sent(9), 3, 2),
		leapt(sent(9), 1, 5, 4, 8),
		// Skip, and what was sent or told of.
		leapt(topped(sent(9), 3), 3),
		leapt(topped(sent(9), 0), 0),
		leapt(topped(sent(9), 5), 1, 3, 5, 7),
		leapt(sent(9, 3), 3),
		leapt(sent(9, 0, 4, 8), 8),
		leapt(sent(9, 0, 4, 8), 0, 1),
		leapt(topped(sent(9, 0, 4, 8), 7), 3, 4, 5),
	}
	for _, l := range [][]api.Range{
		set(-1, 2), set(-1, -1), set(math.MinInt, 0), set(2, 1), set(0, -1), set(0, api.MaxVar+1), set(api.MaxVar+1, api.MaxVar+1),
		set(5, math.MaxInt), set(0, 1, 2, 3), set(0, 2, 2, 3), set(2, 2, 0, 0), set(0, 0, 2, 2, 0, 0), set(0, 5, 2, 3),
	} {
		bad = append(bad, heard(sent(9, 2), l))
	}
	return bad
}

// TestBegin: P11.2, Top is -1, and all else is 0, or empty.
func TestBegin(t *testing.T) {
	if s := Begin(); !same(s, api.Space{Top: -1}) || Check(s) != api.OK {
		t.Errorf("Begin() = %v", s)
	}
}

// TestCheck: P11.1, spaces that may be, and such that may not.
func TestCheck(t *testing.T) {
	for _, s := range goodSpaces() {
		if e := Check(s); e != api.OK {
			t.Errorf("Check(%v) = %d, want 0", s, e)
		}
	}
	for _, s := range badSpaces() {
		if e := Check(s); e != api.ErrState {
			t.Errorf("Check(%v) = %d, want %d", s, e, api.ErrState)
		}
	}
}

// TestSend: P11.3, the packet stands behind all others, with all that is told of it; nothing else changes.
func TestSend(t *testing.T) {
	for _, s := range goodSpaces() {
		for _, c := range []struct {
			now, size int
			l         []api.Frame
		}{
			{0, 0, nil},
			{0, 0, []api.Frame{}},
			{5, 10, frames("new")},
			{api.MaxTime, api.MaxPacket, frames("")},
			{api.MaxTime, 0, frames("new")[:1]},
			{0, api.MaxPacket, make([]api.Frame, 50)},
			{1, 1, []api.Frame{{Kind: 99, Id: -1, Data: make([]byte, 500)}}},
		} {
			want, number, wrong := clone(s), s.Next, api.OK
			want.Next++
			want.Sent = append(want.Sent, api.Parcel{Number: s.Next, Time: c.now, Size: c.size, Frames: c.l})
			if len(s.Sent) == api.MaxSent || s.Next == api.MaxVar {
				want, number, wrong = api.Space{}, 0, api.ErrFull
			}
			got, n, e := Send(s, c.now, c.size, c.l)
			if !same(got, want) || n != number || e != wrong {
				t.Errorf("Send(%v, %d, %d, %v) = %v, %d, %d, want %v, %d, %d", s, c.now, c.size, c.l, got, n, e, want, number, wrong)
			}
		}
	}
}

// TestSendRefuses: P11.3, times and sizes outside their bounds, which are told ahead of ErrFull.
func TestSendRefuses(t *testing.T) {
	for _, s := range goodSpaces() {
		for _, c := range []struct{ now, size int }{
			{-1, 0}, {math.MinInt, 0}, {api.MaxTime + 1, 0}, {math.MaxInt, 0},
			{0, -1}, {0, math.MinInt}, {0, api.MaxPacket + 1}, {0, math.MaxInt},
			{-1, -1}, {api.MaxTime + 1, api.MaxPacket + 1},
		} {
			if got, n, e := Send(s, c.now, c.size, frames("a")); !same(got, api.Space{}) || n != 0 || e != api.ErrRange {
				t.Errorf("Send(%v, %d, %d) = %v, %d, %d, want nothing, %d", s, c.now, c.size, got, n, e, api.ErrRange)
			}
		}
	}
}

// TestFull: P11.3, P11.4 and P11.9, as many as may be are on their way; the last number is given, and then none.
func TestFull(t *testing.T) {
	s := Begin()
	for i := range api.MaxSent {
		next, n, e := Send(s, 3*i, i, nil)
		if n != i || e != api.OK || Check(next) != api.OK {
			t.Fatalf("Send(%v) = %v, %d, %d", s, next, n, e)
		}
		s = next
	}
	if got, n, e := Send(s, 99, 10, nil); !same(got, api.Space{}) || n != 0 || e != api.ErrFull {
		t.Errorf("Send of one too many = %v, %d, %d", got, n, e)
	}
	if got, n, e := Quiet(s); n != api.MaxSent || len(got.Sent) != api.MaxSent || e != api.OK {
		t.Errorf("Quiet(%v) = %v, %d, %d", s, got, n, e)
	}
	if got, e := Leap(s); !slices.Equal(got.Skip, []int{api.MaxSent}) || len(got.Sent) != api.MaxSent || e != api.OK {
		t.Errorf("Leap(%v) = %v, %d", s, got, e)
	}
	last := api.Space{Next: api.MaxVar - 1, Top: -1}
	if got, n, e := Send(last, 1, 2, nil); got.Next != api.MaxVar || n != api.MaxVar-1 || e != api.OK || Check(got) != api.OK {
		t.Errorf("Send(%v) = %v, %d, %d", last, got, n, e)
	}
	if got, n, e := Quiet(last); got.Next != api.MaxVar || n != api.MaxVar-1 || e != api.OK || Check(got) != api.OK {
		t.Errorf("Quiet(%v) = %v, %d, %d", last, got, n, e)
	}
	if got, e := Leap(last); got.Next != api.MaxVar || !slices.Equal(got.Skip, []int{api.MaxVar - 1}) || e != api.OK || Check(got) != api.OK {
		t.Errorf("Leap(%v) = %v, %d", last, got, e)
	}
}

// TestLeap: P11.4, the number is left out; of too many the first ones go; nothing else changes.
func TestLeap(t *testing.T) {
	for _, s := range goodSpaces() {
		want, wrong := clone(s), api.OK
		want.Next++
		want.Skip = append(want.Skip, s.Next)
		if len(want.Skip) > 6 {
			want.Skip = want.Skip[1:]
		}
		if s.Next == api.MaxVar {
			want, wrong = api.Space{}, api.ErrFull
		}
		if got, e := Leap(s); !same(got, want) || e != wrong {
			t.Errorf("Leap(%v) = %v, %d, want %v, %d", s, got, e, want, wrong)
		}
	}
	s := Begin()
	for range 10 {
		s, _ = Leap(s)
	}
	if !same(s, leapt(sent(10), 4, 5, 6, 7, 8, 9)) {
		t.Errorf("ten leaps lead to %v", s)
	}
}

// TestQuiet: P11.9, the number is gone; nothing else changes.
func TestQuiet(t *testing.T) {
	for _, s := range goodSpaces() {
		want, number, wrong := clone(s), s.Next, api.OK
		want.Next++
		if s.Next == api.MaxVar {
			want, number, wrong = api.Space{}, 0, api.ErrFull
		}
		if got, n, e := Quiet(s); !same(got, want) || n != number || e != wrong {
			t.Errorf("Quiet(%v) = %v, %d, %d, want %v, %d, %d", s, got, n, e, want, number, wrong)
		}
	}
}

// TestHear: P11.5, numbers that are new, and such that are not; of too many ranges the lowest one goes.
func TestHear(t *testing.T) {
	six := set(10, 11, 20, 21, 30, 31, 40, 41, 50, 51, 60, 61)
	for _, c := range []struct {
		name   string
		l      []api.Range
		number int
		want   []api.Range
		fresh  bool
	}{
		{"the first one", nil, 7, set(7, 7), true},
		{"0", nil, 0, set(0, 0), true},
		{"the highest one", nil, api.MaxVar, set(api.MaxVar, api.MaxVar), true},
		{"above others", set(1, 2), 7, set(1, 2, 7, 7), true},
		{"below others", set(4, 6), 1, set(1, 1, 4, 6), true},
		{"beside others, above", set(4, 6), 7, set(4, 7), true},
		{"beside others, below", set(4, 6), 3, set(3, 6), true},
		{"between others", set(1, 2, 4, 6), 3, set(1, 6), true},
		{"amid others", set(4, 6), 5, set(4, 6), false},
		{"the lowest one of others", set(4, 6), 4, set(4, 6), false},
		{"the highest one of others", set(4, 6), 6, set(4, 6), false},
		{"the lowest one, below five", six[1:], 7, append(set(7, 7), six[1:]...), true},
		{"above six", six, 70, append(slices.Clone(six[1:]), set(70, 70)...), true},
		{"between six", six, 35, set(20, 21, 30, 31, 35, 35, 40, 41, 50, 51, 60, 61), true},
		{"just above the lowest one of six", six, 13, set(13, 13, 20, 21, 30, 31, 40, 41, 50, 51, 60, 61), true},
		{"beside the lowest one of six", six, 12, set(10, 12, 20, 21, 30, 31, 40, 41, 50, 51, 60, 61), true},
		{"beside the highest one of six", six, 62, set(10, 11, 20, 21, 30, 31, 40, 41, 50, 51, 60, 62), true},
		{"in the lowest one of six", six, 10, six, false},
		{"in the highest one of six", six, 61, six, false},
		{"below six", six, 5, six, false},
		{"0, below six", six, 0, six, false},
		{"below six, beside the lowest one", six, 9, six, false},
		{"beside the highest of all numbers", set(api.MaxVar-2, api.MaxVar-1), api.MaxVar, set(api.MaxVar-2, api.MaxVar), true},
		{"all numbers", set(0, api.MaxVar), api.MaxVar, set(0, api.MaxVar), false},
	} {
		s := heard(leapt(topped(sent(9, 2, 5), 6), 3), c.l)
		if got, fresh, e := Hear(s, c.number); !same(got, heard(s, c.want)) || fresh != c.fresh || e != api.OK {
			t.Errorf("%s: Hear(%v, %d) = %v, %t, %d, want %v, %t, 0", c.name, s, c.number, got, fresh, e, heard(s, c.want), c.fresh)
		}
	}
}

// TestHearRefuses: P11.5, numbers outside their bounds, also if they are below all of Heard.
func TestHearRefuses(t *testing.T) {
	for _, s := range goodSpaces() {
		for _, n := range []int{-1, math.MinInt, api.MaxVar + 1, math.MaxInt} {
			if got, fresh, e := Hear(s, n); !same(got, api.Space{}) || fresh || e != api.ErrRange {
				t.Errorf("Hear(%v, %d) = %v, %t, %d, want nothing, %d", s, n, got, fresh, e, api.ErrRange)
			}
		}
	}
}

// TestTell: P11.6, the highest one first.
func TestTell(t *testing.T) {
	for _, c := range []struct{ l, want []api.Range }{
		{nil, nil},
		{[]api.Range{}, nil},
		{set(0, 0), set(0, 0)},
		{set(3, 9), set(3, 9)},
		{set(0, 2, 4, 4), set(4, 4, 0, 2)},
		{set(0, 2, 4, 4, 9, api.MaxVar), set(9, api.MaxVar, 4, 4, 0, 2)},
		{set(0, 0, 2, 2, 4, 4, 6, 6, 8, 8, 10, 10), set(10, 10, 8, 8, 6, 6, 4, 4, 2, 2, 0, 0)},
	} {
		if got, e := Tell(heard(sent(9, 2, 5), c.l)); !slices.Equal(got, c.want) || e != api.OK {
			t.Errorf("Tell of %v = %v, %d, want %v, 0", c.l, got, e, c.want)
		}
	}
}

// TestAcked: P11.7, packets that were heard of, those that are lost by it, and those that stay.
func TestAcked(t *testing.T) {
	all := sent(20, 2, 5, 6, 7, 8, 9, 12, 15, 19)
	for _, c := range []struct {
		name        string
		s           api.Space
		l           []api.Range
		top         int
		heard, lost []int
	}{
		{"nothing", all, nil, -1, nil, nil},
		{"nothing, an empty list", all, []api.Range{}, -1, nil, nil},
		{"nothing, though others were told of", topped(all, 9), nil, 9, nil, []int{2, 5, 6}},
		{"the first one", all, set(2, 2), 2, []int{2}, nil},
		{"one two behind", all, set(7, 7), 7, []int{7}, []int{2}},
		{"one just three behind", all, set(8, 8), 8, []int{8}, []int{2, 5}},
		{"the highest one", all, set(19, 19), 19, []int{19}, []int{2, 5, 6, 7, 8, 9, 12, 15}},
		{"all", all, set(0, 19), 19, []int{2, 5, 6, 7, 8, 9, 12, 15, 19}, nil},
		{"all but one in the middle", all, set(9, 19, 0, 7), 19, []int{2, 5, 6, 7, 9, 12, 15, 19}, []int{8}},
		{"all but those that are near", all, set(19, 19, 0, 14), 19, []int{2, 5, 6, 7, 8, 9, 12, 19}, []int{15}},
		{"one that is not on its way", all, set(4, 4), 4, nil, nil},
		{"one that is not on its way, far above", all, set(18, 18), 18, nil, []int{2, 5, 6, 7, 8, 9, 12, 15}},
		{"one that is not on its way, 0", all, set(0, 0), 0, nil, nil},
		{"below what was told of", topped(all, 9), set(5, 5), 9, []int{5}, []int{2, 6}},
		{"what was told of", topped(all, 9), set(9, 9), 9, []int{9}, []int{2, 5, 6}},
		{"above what was told of", topped(all, 9), set(12, 12), 12, []int{12}, []int{2, 5, 6, 7, 8, 9}},
		{"ranges in rising order", all, set(2, 2, 6, 7), 7, []int{2, 6, 7}, nil},
		{"ranges in no order, the highest one amid others", all, set(2, 2, 8, 9, 5, 5), 9, []int{2, 5, 8, 9}, []int{6}},
		{"ranges that overlap", all, set(5, 8, 6, 7, 7, 9, 5, 8), 9, []int{5, 6, 7, 8, 9}, []int{2}},
		{"ranges side by side", all, set(7, 7, 6, 6, 5, 5), 7, []int{5, 6, 7}, []int{2}},
		{"one twice", all, set(2, 2, 2, 2), 2, []int{2}, nil},
		{"many ranges", all, evens(9, 2), 18, []int{2, 6, 8, 12}, []int{5, 7, 9, 15}},
		{"between those that were left out", leapt(all, 4, 10, 18), set(5, 9, 11, 17), 17, []int{5, 6, 7, 8, 9, 12, 15}, []int{2}},
		{"beside those that were left out", leapt(all, 4, 10), set(5, 9), 9, []int{5, 6, 7, 8, 9}, []int{2}},
		{"nothing is on its way", sent(9), set(0, 8), 8, nil, nil},
		{"0 alone", sent(1, 0), set(0, 0), 0, []int{0}, nil},
		{"0 is just three behind", sent(4, 0, 1, 2, 3), set(3, 3), 3, []int{3}, []int{0}},
		{"0 is but two behind", sent(4, 0, 1, 2, 3), set(2, 2), 2, []int{2}, nil},
	} {
		want := clone(c.s)
		want.Top = c.top
		want.Sent = nil
		for _, p := range c.s.Sent {
			if !slices.Contains(c.heard, p.Number) && !slices.Contains(c.lost, p.Number) {
				want.Sent = append(want.Sent, p)
			}
		}
		got, a, b, e := Acked(c.s, c.l)
		if !same(got, want) || !sameParcels(a, packets(c.heard...)) || !sameParcels(b, packets(c.lost...)) || e != api.OK || Check(got) != api.OK {
			t.Errorf("%s: Acked(%v, %v) = %v, %v, %v, %d, want %v, %v, %v, 0", c.name, c.s, c.l, got, a, b, e, want, c.heard, c.lost)
		}
	}
}

// TestAckedRefuses: P11.7, ranges that are none, and numbers that were never sent, in their order.
func TestAckedRefuses(t *testing.T) {
	s := leapt(sent(20, 2, 5, 9), 4, 10, 18)
	for _, c := range []struct {
		name string
		s    api.Space
		l    []api.Range
		e    api.Errno
	}{
		{"below 0", s, set(-1, 3), api.ErrForm},
		{"far below 0", s, set(math.MinInt, 3), api.ErrForm},
		{"both below 0", s, set(-3, -1), api.ErrForm},
		{"the wrong way round", s, set(3, 2), api.ErrForm},
		{"the wrong way round, far above", s, set(math.MaxInt, 20), api.ErrForm},
		{"the wrong way round, far off", s, set(math.MaxInt, math.MinInt), api.ErrForm},
		{"below 0, and above all that was sent", s, set(-1, 20), api.ErrForm},
		{"one too high", s, set(2, 20), api.ErrAck},
		{"above all that was sent", s, set(20, 20), api.ErrAck},
		{"far above", s, set(0, math.MaxInt), api.ErrAck},
		{"of a space that begins", Begin(), set(0, 0), api.ErrAck},
		{"the second one", s, set(2, 2, 3, 2), api.ErrForm},
		{"the second one is too high", s, set(2, 2, 3, 20), api.ErrAck},
		{"range by range, ErrForm first", s, set(2, 2, 3, 2, 20, 20), api.ErrForm},
		{"range by range, ErrAck first", s, set(2, 2, 20, 20, 3, 2), api.ErrAck},
		{"one that was left out", s, set(4, 4), api.ErrAck},
		{"the highest one that was left out", s, set(11, 19), api.ErrAck},
		{"the lowest one that was left out", s, set(0, 9), api.ErrAck},
		{"left out, at the low end", s, set(10, 11), api.ErrAck},
		{"left out, at the high end", s, set(11, 18), api.ErrAck},
		{"left out, in the second range", s, set(5, 9, 1, 4), api.ErrAck},
		{"left out, and a later range the wrong way round", s, set(4, 4, 3, 2), api.ErrForm},
		{"left out, and a later range too high", s, set(4, 4, 3, 20), api.ErrAck},
	} {
		if got, a, b, e := Acked(c.s, c.l); !same(got, api.Space{}) || len(a) != 0 || len(b) != 0 || e != c.e {
			t.Errorf("%s: Acked(%v, %v) = %v, %v, %v, %d, want nothing, %d", c.name, c.s, c.l, got, a, b, e, c.e)
		}
	}
}

// TestOverdue: P11.8, those that were sent age ago, or earlier, wherever they stand.
func TestOverdue(t *testing.T) {
	all := topped(leapt(heard(sent(9), set(1, 2)), 5), 4)
	all.Sent = []api.Parcel{timed(0, 10, 1), timed(1, 30, 2), timed(2, 20, 3), timed(3, 20, 4), timed(6, api.MaxTime, 5)}
	for _, c := range []struct {
		now, age int
		lost     []int
	}{
		{0, 0, nil},
		{9, 0, nil},
		{10, 0, []int{0}},
		{17, 8, nil},
		{18, 8, []int{0}},
		{19, 8, []int{0}},
		{27, 8, []int{0}},
		{28, 8, []int{0, 2, 3}},
		{30, 0, []int{0, 1, 2, 3}},
		{30, 1, []int{0, 2, 3}},
		{37, 8, []int{0, 2, 3}},
		{38, 8, []int{0, 1, 2, 3}},
		{10, 11, nil},
		{5, api.MaxTime, nil},
		{0, api.MaxTime, nil},
		{api.MaxTime, api.MaxTime, nil},
		{api.MaxTime, api.MaxTime - 9, nil},
		{api.MaxTime, api.MaxTime - 10, []int{0}},
		{api.MaxTime, 1, []int{0, 1, 2, 3}},
		{api.MaxTime, 0, []int{0, 1, 2, 3, 6}},
	} {
		want := clone(all)
		var lost []api.Parcel
		want.Sent = nil
		for _, p := range all.Sent {
			if slices.Contains(c.lost, p.Number) {
				lost = append(lost, p)
			} else {
				want.Sent = append(want.Sent, p)
			}
		}
		if got, l, e := Overdue(all, c.now, c.age); !same(got, want) || !sameParcels(l, lost) || e != api.OK {
			t.Errorf("Overdue(%v, %d, %d) = %v, %v, %d, want %v, %v, 0", all, c.now, c.age, got, l, e, want, lost)
		}
	}
	if got, l, e := Overdue(Begin(), 9, 3); !same(got, Begin()) || len(l) != 0 || e != api.OK {
		t.Errorf("Overdue of nothing = %v, %v, %d", got, l, e)
	}
	if got, l, e := Overdue(sent(9, 2, 5), 50, 0); !same(got, sent(9)) || !sameParcels(l, packets(2, 5)) || e != api.OK {
		t.Errorf("Overdue of packets with frames = %v, %v, %d", got, l, e)
	}
}

// TestOverdueRefuses: P11.8, times outside their bounds.
func TestOverdueRefuses(t *testing.T) {
	for _, s := range goodSpaces() {
		for _, n := range []int{-1, math.MinInt, api.MaxTime + 1, math.MaxInt} {
			for _, c := range [][2]int{{n, 0}, {0, n}, {n, n}} {
				if got, l, e := Overdue(s, c[0], c[1]); !same(got, api.Space{}) || len(l) != 0 || e != api.ErrRange {
					t.Errorf("Overdue(%v, %d, %d) = %v, %v, %d, want nothing, %d", s, c[0], c[1], got, l, e, api.ErrRange)
				}
			}
		}
	}
}

// TestState: P11.3 to P11.9, what Check refuses is told ahead of all else.
func TestState(t *testing.T) {
	none := api.Space{}
	for _, bad := range badSpaces() {
		for _, n := range []int{0, 1, 5, -1, math.MinInt, api.MaxVar + 1, math.MaxInt} {
			if s, number, e := Send(bad, n, n, frames("a")); !same(s, none) || number != 0 || e != api.ErrState {
				t.Errorf("Send(%v, %d, %d) = %v, %d, %d", bad, n, n, s, number, e)
			}
			if s, fresh, e := Hear(bad, n); !same(s, none) || fresh || e != api.ErrState {
				t.Errorf("Hear(%v, %d) = %v, %t, %d", bad, n, s, fresh, e)
			}
			if s, a, b, e := Acked(bad, set(n, n)); !same(s, none) || len(a) != 0 || len(b) != 0 || e != api.ErrState {
				t.Errorf("Acked(%v, %d) = %v, %v, %v, %d", bad, n, s, a, b, e)
			}
			if s, l, e := Overdue(bad, n, n); !same(s, none) || len(l) != 0 || e != api.ErrState {
				t.Errorf("Overdue(%v, %d, %d) = %v, %v, %d", bad, n, n, s, l, e)
			}
		}
		if s, e := Leap(bad); !same(s, none) || e != api.ErrState {
			t.Errorf("Leap(%v) = %v, %d", bad, s, e)
		}
		if s, n, e := Quiet(bad); !same(s, none) || n != 0 || e != api.ErrState {
			t.Errorf("Quiet(%v) = %v, %d, %d", bad, s, n, e)
		}
		if l, e := Tell(bad); len(l) != 0 || e != api.ErrState {
			t.Errorf("Tell(%v) = %v, %d", bad, l, e)
		}
	}
}

// fate of a number.
type fate int

const (
	quiet fate = iota
	flying
	gone
	left
)

// model of a space: the fate of each number, and of each that may have come whether it is kept.
type model struct {
	fates []fate
	times []int
	top   int
	came  [40]bool
}

// flight of a model: the numbers that are on their way.
func (m *model) flight() []int {
	return m.all(flying)
}

// all numbers of one fate.
func (m *model) all(f fate) []int {
	var l []int
	for n, x := range m.fates {
		if x == f {
			l = append(l, n)
		}
	}
	return l
}

// give the next number a fate.
func (m *model) give(f fate, now int) {
	m.fates = append(m.fates, f)
	m.times = append(m.times, now)
}

// skip of a model: the last six numbers that were left out.
func (m *model) skip() []int {
	l := m.all(left)
	return l[max(0, len(l)-6):]
}

// kept ranges of a model, the lowest one first.
func (m *model) kept() []api.Range {
	var l []api.Range
	for n, yes := range m.came {
		switch {
		case !yes:
		case n > 0 && m.came[n-1]:
			l[len(l)-1].Hi = n
		default:
			l = append(l, api.Range{Lo: n, Hi: n})
		}
	}
	return l
}

// hear of a number, in a model: was it new?
func (m *model) hear(n int) bool {
	l := m.kept()
	if m.came[n] || len(l) == 6 && n < l[0].Lo {
		return false
	}
	m.came[n] = true
	if l = m.kept(); len(l) > 6 {
		for i := l[0].Lo; i <= l[0].Hi; i++ {
			m.came[i] = false
		}
	}
	return true
}

// told tells which numbers ranges have, and whether one is wrong.
func (m *model) told(l []api.Range) (map[int]bool, api.Errno) {
	has := map[int]bool{}
	for _, r := range l {
		if r.Lo < 0 || r.Lo > r.Hi {
			return nil, api.ErrForm
		}
		if r.Hi >= len(m.fates) {
			return nil, api.ErrAck
		}
		for n := r.Lo; n <= r.Hi; n++ {
			has[n] = true
		}
	}
	for _, n := range m.skip() {
		if has[n] {
			return nil, api.ErrAck
		}
	}
	return has, api.OK
}

// acked: a model is told of ranges.
func (m *model) acked(l []api.Range) (heard, lost []int, e api.Errno) {
	has, e := m.told(l)
	for n := range has {
		m.top = max(m.top, n)
	}
	for _, n := range m.flight() {
		switch {
		case e != api.OK:
		case has[n]:
			heard, m.fates[n] = append(heard, n), gone
		case m.top-n >= 3:
			lost, m.fates[n] = append(lost, n), gone
		}
	}
	return heard, lost, e
}

// overdue packets of a model.
func (m *model) overdue(now, age int) []int {
	var lost []int
	for _, n := range m.flight() {
		if now-m.times[n] >= age {
			lost, m.fates[n] = append(lost, n), gone
		}
	}
	return lost
}

// is a space as a model says?
func (m *model) is(s api.Space) bool {
	for _, p := range s.Sent {
		if p.Number >= len(m.times) || p.Time != m.times[p.Number] || p.Size != p.Number || len(p.Frames) != 1 || p.Frames[0].Id != p.Number {
			return false
		}
	}
	return s.Next == len(m.fates) && s.Top == m.top && slices.Equal(numbersOf(s.Sent), m.flight()) &&
		slices.Equal(s.Heard, m.kept()) && slices.Equal(s.Skip, m.skip())
}

func numbersOf(l []api.Parcel) []int {
	var out []int
	for _, p := range l {
		out = append(out, p.Number)
	}
	return out
}

// TestModel: P11.1 to P11.9, many steps, by chance, right ones and wrong ones.
func TestModel(t *testing.T) {
	chance := rand.New(rand.NewPCG(11, 1111))
	seen := map[string]int{}
	for range 2000 {
		m, s := &model{top: -1}, Begin()
		for now := range 60 {
			was := clone(s)
			next := move(t, chance, seen, m, s, now)
			if !same(s, was) {
				t.Fatalf("the space %v was changed to %v", was, s)
			}
			if Check(next) != api.OK || !m.is(next) {
				t.Fatalf("from %v to %v, want %v", was, next, m)
			}
			l, e := Tell(next)
			slices.Reverse(l)
			if !slices.Equal(l, m.kept()) || e != api.OK {
				t.Fatalf("Tell(%v) = %v backwards, %d", next, l, e)
			}
			s = next
		}
	}
	if seen["full"] < 200 {
		t.Errorf("full: only %d times", seen["full"])
	}
	for _, what := range []string{"new", "not new", "heard of", "lost", "overdue", "3", "13", "left out"} {
		if seen[what] < 1000 {
			t.Errorf("%s: only %d times", what, seen[what])
		}
	}
}

// move a model and a space one step on, by chance.
func move(t *testing.T, chance *rand.Rand, seen map[string]int, m *model, s api.Space, now int) api.Space {
	t.Helper()
	got, n, e := s, s.Next, api.OK
	switch chance.IntN(16) {
	case 0:
		got, n, e = Quiet(s)
		m.give(quiet, now)
	case 1:
		got, e = Leap(s)
		m.give(left, now)
		seen["left out"]++
	case 2, 3, 4, 5:
		return hearOf(t, chance, seen, m, s)
	case 6, 7:
		return tellOf(t, chance, seen, m, s)
	case 8:
		age := 5 + chance.IntN(20)
		want := m.overdue(now, age)
		next, lost, e := Overdue(s, now, age)
		if !slices.Equal(numbersOf(lost), want) || e != api.OK {
			t.Fatalf("Overdue(%v, %d, %d) = %v, %d, want %v", s, now, age, lost, e, want)
		}
		seen["overdue"] += len(lost)
		return next
	default:
		got, n, e = Send(s, now, s.Next, []api.Frame{{Kind: api.Stream, Id: s.Next}})
		if len(m.flight()) == 24 {
			if e != api.ErrFull || n != 0 || !same(got, api.Space{}) {
				t.Fatalf("Send(%v) = %v, %d, %d", s, got, n, e)
			}
			seen["full"]++
			return s
		}
		m.give(flying, now)
	}
	if n != s.Next || e != api.OK {
		t.Fatalf("from %v: %d, %d", s, n, e)
	}
	return got
}

// hearOf a number, by chance.
func hearOf(t *testing.T, chance *rand.Rand, seen map[string]int, m *model, s api.Space) api.Space {
	t.Helper()
	n := chance.IntN(len(m.came))
	want := m.hear(n)
	got, fresh, e := Hear(s, n)
	if fresh != want || e != api.OK {
		t.Fatalf("Hear(%v, %d) = %t, %d, want %t", s, n, fresh, e, want)
	}
	seen[map[bool]string{true: "new", false: "not new"}[fresh]]++
	return got
}

// tellOf ranges, by chance.
func tellOf(t *testing.T, chance *rand.Rand, seen map[string]int, m *model, s api.Space) api.Space {
	t.Helper()
	var l []api.Range
	for range chance.IntN(4) {
		lo := chance.IntN(s.Next+2) - chance.IntN(2)
		l = append(l, api.Range{Lo: lo, Hi: lo + chance.IntN(5) - chance.IntN(2)})
	}
	heard, lost, wrong := m.acked(l)
	got, a, b, e := Acked(s, l)
	if !slices.Equal(numbersOf(a), heard) || !slices.Equal(numbersOf(b), lost) || e != wrong {
		t.Fatalf("Acked(%v, %v) = %v, %v, %d, want %v, %v, %d", s, l, a, b, e, heard, lost, wrong)
	}
	seen["heard of"] += len(a)
	seen["lost"] += len(b)
	seen[map[api.Errno]string{0: "0", 3: "3", 13: "13"}[e]]++
	if e != api.OK {
		return s
	}
	return got
}

// TestNoticed: P11.5 to P11.7, what one end tells of what it has heard of, the other one is told.
func TestNoticed(t *testing.T) {
	here, there := Begin(), Begin()
	for i := range 12 {
		here, _, _ = Send(here, i, 10, nil)
		if i%4 != 1 {
			there, _, _ = Hear(there, i)
		}
	}
	l, _ := Tell(there)
	here, heard, lost, e := Acked(here, l)
	if !slices.Equal(numbersOf(heard), []int{0, 2, 3, 4, 6, 7, 8, 10, 11}) || !slices.Equal(numbersOf(lost), []int{1, 5}) || e != api.OK {
		t.Errorf("Acked(%v) = %v, %v, %d", l, heard, lost, e)
	}
	if here.Top != 11 || !slices.Equal(numbersOf(here.Sent), []int{9}) {
		t.Errorf("then it is %v", here)
	}
	here, heard, lost, e = Acked(here, l)
	if len(heard) != 0 || len(lost) != 0 || here.Top != 11 || e != api.OK {
		t.Errorf("once more: %v, %v, %v, %d", here, heard, lost, e)
	}
}

// mirror of a list, with spare room behind it that is filled, too.
func mirror[E any](l []E, spare E) []E {
	roomy := append(make([]E, 0, len(l)+7), l...)
	for i := range roomy[len(l):cap(roomy)] {
		roomy[:cap(roomy)][len(l)+i] = spare
	}
	return roomy
}

// roomyFrames have spare room in all their lists.
func roomyFrames(l []api.Frame) []api.Frame {
	l = mirror(l, api.Frame{Kind: -5})
	for i := range l {
		l[i].Ranges = mirror(l[i].Ranges, api.Range{Lo: 66, Hi: 66})
		l[i].Data = mirror(l[i].Data, 'x')
	}
	return l
}

// roomy is a space with spare room in all its lists.
func roomy(s api.Space) api.Space {
	s.Sent = mirror(s.Sent, api.Parcel{Number: -6})
	for i := range s.Sent {
		s.Sent[i].Frames = roomyFrames(s.Sent[i].Frames)
	}
	s.Heard = mirror(s.Heard, api.Range{Lo: 77, Hi: 77})
	s.Skip = mirror(s.Skip, 88)
	return s
}

// all that a call may read and answer: every list of it is told with its spare room.
type all struct {
	space  api.Space
	a, b   []api.Parcel
	frames []api.Frame
	ranges []api.Range
}

// wideFrames tell their spare room, too.
func wideFrames(l []api.Frame) []api.Frame {
	l = slices.Clone(l[:cap(l)])
	for i := range l {
		l[i].Ranges, l[i].Data = l[i].Ranges[:cap(l[i].Ranges)], l[i].Data[:cap(l[i].Data)]
	}
	return l
}

func wideParcels(l []api.Parcel) []api.Parcel {
	l = slices.Clone(l[:cap(l)])
	for i := range l {
		l[i].Frames = wideFrames(l[i].Frames)
	}
	return l
}

func wide(x all) all {
	s := x.space
	s.Sent, s.Heard, s.Skip = wideParcels(s.Sent), s.Heard[:cap(s.Heard)], s.Skip[:cap(s.Skip)]
	return all{s, wideParcels(x.a), wideParcels(x.b), wideFrames(x.frames), x.ranges[:cap(x.ranges)]}
}

// kept is all of it in memory of its own.
func kept(x all) all {
	return all{clone(x.space), cloneParcels(x.a), cloneParcels(x.b), cloneFrames(x.frames), slices.Clone(x.ranges)}
}

func sameAll(x, y all) bool {
	return same(x.space, y.space) && sameParcels(x.a, y.a) && sameParcels(x.b, y.b) &&
		sameFrames(x.frames, y.frames) && slices.Equal(x.ranges, y.ranges)
}

// spoil a list, its spare room too.
func spoil[E any](l []E, with E) {
	for i := range l[:cap(l)] {
		l[:cap(l)][i] = with
	}
}

func spoilFrames(l []api.Frame) {
	for _, f := range l[:cap(l)] {
		spoil(f.Ranges, api.Range{Lo: -7, Hi: -7})
		spoil(f.Data, '!')
	}
	spoil(l, api.Frame{Kind: -7})
}

func spoilParcels(l []api.Parcel) {
	for _, p := range l[:cap(l)] {
		spoilFrames(p.Frames)
	}
	spoil(l, api.Parcel{Number: -7})
}

// spoils of an answer: each spoils one list of it, with all that is in it.
func spoils() []func(x all) {
	return []func(x all){
		func(x all) { spoilParcels(x.space.Sent) },
		func(x all) { spoil(x.space.Heard, api.Range{Lo: -7, Hi: -7}) },
		func(x all) { spoil(x.space.Skip, -7) },
		func(x all) { spoilParcels(x.a) },
		func(x all) { spoilParcels(x.b) },
		func(x all) { spoil(x.ranges, api.Range{Lo: -7, Hi: -7}) },
	}
}

// without what one of the spoils has spoilt.
func without(x all, i int) all {
	switch i {
	case 0:
		x.space.Sent = nil
	case 1:
		x.space.Heard = nil
	case 2:
		x.space.Skip = nil
	case 3:
		x.a = nil
	case 4:
		x.b = nil
	case 5:
		x.ranges = nil
	}
	return x
}

// calls with a space, frames and ranges.
func calls() map[string]func(x all) all {
	return map[string]func(x all) all{
		"Send": func(x all) all {
			s, _, _ := Send(x.space, 9, 9, x.frames)
			return all{space: s}
		},
		"Leap": func(x all) all {
			s, _ := Leap(x.space)
			return all{space: s}
		},
		"Quiet": func(x all) all {
			s, _, _ := Quiet(x.space)
			return all{space: s}
		},
		"Hear": func(x all) all {
			s, _, _ := Hear(x.space, 35)
			return all{space: s}
		},
		"Hear of an old one": func(x all) all {
			s, _, _ := Hear(x.space, 0)
			return all{space: s}
		},
		"Tell": func(x all) all {
			l, _ := Tell(x.space)
			return all{ranges: l}
		},
		"Acked": func(x all) all {
			s, a, b, _ := Acked(x.space, x.ranges)
			return all{space: s, a: a, b: b}
		},
		"Acked of nothing": func(x all) all {
			s, a, b, _ := Acked(x.space, nil)
			return all{space: s, a: a, b: b}
		},
		"Overdue": func(x all) all {
			s, l, _ := Overdue(x.space, 50, 10)
			return all{space: s, a: l}
		},
		"Overdue, none": func(x all) all {
			s, l, _ := Overdue(x.space, 0, 1)
			return all{space: s, a: l}
		},
	}
}

// TestNewMemory: P11.3 to P11.9, what is handed in stays as it is, its spare room too; what is answered shares nothing with it, and no two lists of one answer share any.
func TestNewMemory(t *testing.T) {
	for name, call := range calls() {
		for _, s := range append(goodSpaces(), topped(sent(30, 2, 5, 8, 9, 25), 9)) {
			x := all{space: roomy(s), frames: roomyFrames(frames("new")), ranges: mirror(set(0, 0, 8, 8), api.Range{Lo: 1, Hi: 1})}
			was := kept(wide(x))
			want := kept(call(x))
			for i, spoilt := range spoils() {
				got := call(x)
				spoilt(got)
				if !sameAll(without(got, i), without(want, i)) {
					t.Errorf("%s of %v: list %d shares memory with another one of the answer", name, s, i)
				}
				if !sameAll(wide(x), was) {
					t.Fatalf("%s of %v: what is handed in was changed, or is shared by list %d", name, s, i)
				}
			}
			if again := call(x); !sameAll(again, want) {
				t.Errorf("%s of %v: once more = %v, want %v", name, s, again, want)
			}
		}
	}
}

// TestApart: P11.7, no two lists within one answer share memory: what is put behind one reaches no other.
func TestApart(t *testing.T) {
	s, a, b, _ := Acked(sent(30, 2, 5, 8, 9, 25), set(8, 9))
	var lists [][]api.Parcel
	lists = append(lists, s.Sent, a, b)
	for i, l := range lists {
		if len(l) == 0 {
			t.Fatalf("list %d is empty", i)
		}
		for _, p := range l {
			_ = append(p.Frames, api.Frame{Kind: -7})
			_ = append(p.Frames[1].Data, "???"...)
			_ = append(p.Frames[0].Ranges, api.Range{Lo: -7, Hi: -7})
		}
		_ = append(l, api.Parcel{Number: -7}, api.Parcel{Number: -7})
	}
	if !sameParcels(s.Sent, packets(25)) || !sameParcels(a, packets(8, 9)) || !sameParcels(b, packets(2, 5)) {
		t.Errorf("they share memory: %v, %v, %v", s.Sent, a, b)
	}
}

// TestSets: P11.5 and P11.6, what is heard of is always a set that may be told.
func TestSets(t *testing.T) {
	chance := rand.New(rand.NewPCG(11, 5))
	for range 300 {
		s := Begin()
		for range 100 {
			s, _, _ = Hear(s, chance.IntN(60))
			if ranges.Check(s.Heard) != api.OK || len(s.Heard) > api.MaxRanges || len(s.Heard) == 0 {
				t.Fatalf("Heard is %v", s.Heard)
			}
		}
	}
}
