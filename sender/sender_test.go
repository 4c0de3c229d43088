package sender

import (
	"bytes"
	"math"
	"math/rand/v2"
	"slices"
	"strings"
	"testing"

	"spillway/api"
	"spillway/frame"
)

// set of ranges: two numbers each.
func set(l ...int) []api.Range {
	var s []api.Range
	for i := 0; i < len(l); i += 2 {
		s = append(s, api.Range{Lo: l[i], Hi: l[i+1]})
	}
	return s
}

// open is a sender whose end is not written yet, of which so many bytes were sent, up to a Max.
func open(text string, next, most int) api.Sender {
	return api.Sender{Data: []byte(text), Next: next, Max: most}
}

// shut is a sender whose end is written.
func shut(text string, next, most int) api.Sender {
	s := open(text, next, most)
	s.Fin = true
	return s
}

// ended is a sender that sent all, and the end.
func ended(text string) api.Sender {
	s := shut(text, len(text), 100)
	s.Ended = true
	return s
}

// over is a sender whose end was heard of.
func over(text string) api.Sender {
	s := shut(text, len(text), 100)
	s.Over = true
	return s
}

// with some bytes Lost, and some Acked.
func with(s api.Sender, lost, acked []api.Range) api.Sender {
	s.Lost, s.Acked = lost, acked
	return s
}

// same tells whether two senders are: a list without elements may be nil or not.
func same(a, b api.Sender) bool {
	return bytes.Equal(a.Data, b.Data) && slices.Equal(a.Lost, b.Lost) && slices.Equal(a.Acked, b.Acked) &&
		a.Fin == b.Fin && a.Next == b.Next && a.Max == b.Max && a.Ended == b.Ended && a.Over == b.Over
}

func sameFrame(a, b api.Frame) bool {
	return a.Kind == b.Kind && a.Id == b.Id && a.Off == b.Off && a.Fin == b.Fin && a.Code == b.Code &&
		len(a.Ranges) == 0 && len(b.Ranges) == 0 && bytes.Equal(a.Data, b.Data)
}

// clone of a sender.
func clone(s api.Sender) api.Sender {
	s.Data, s.Lost, s.Acked = bytes.Clone(s.Data), slices.Clone(s.Lost), slices.Clone(s.Acked)
	return s
}

// full has as many bytes as may be.
func full() string {
	return strings.Repeat("0123456789", 60)
}

// goodSenders are senders that may be, at all their bounds.
func goodSenders() []api.Sender {
	return []api.Sender{
		{},
		{Data: []byte{}, Lost: []api.Range{}, Acked: []api.Range{}},
		{Fin: true},
		{Fin: true, Ended: true},
		{Fin: true, Over: true},
		{Max: api.MaxVar},
		open("abcde", 0, 0),
		open("abcde", 0, 100),
		open("abcde", 3, 3),
		open("abcde", 3, 4),
		open("abcde", 5, 5),
		open("abcde", 5, api.MaxVar),
		shut("abcde", 0, 0),
		shut("abcde", 3, 100),
		shut("abcde", 5, 5),
		ended("abcde"),
		over("abcde"),
		with(open("abcde", 5, 5), set(0, 4), nil),
		with(open("abcde", 5, 5), nil, set(0, 4)),
		with(open("abcde", 3, 9), set(2, 2), set(0, 1)),
		with(open("abcde", 3, 9), set(0, 1), set(2, 2)),
		with(open("abcde", 5, 9), set(0, 0, 2, 2, 4, 4), set(1, 1, 3, 3)),
		with(open("abcde", 5, 9), set(1, 1, 3, 3), set(0, 0, 2, 2, 4, 4)),
		with(open("abcde", 1, 1), set(0, 0), nil),
		with(shut("abcde", 5, 9), set(3, 4), set(0, 1)),
		with(ended("abcde"), set(0, 1), set(3, 4)),
		with(over("abcde"), set(1, 3), set(4, 4)),
		with(over("abcde"), nil, set(0, 4)),
		open(full(), 0, 600),
		open(full(), 600, 600),
		with(shut(full(), 600, 600), set(0, 299), set(300, 599)),
		with(ended(full()[:100]), set(99, 99), set(0, 98)),
	}
}

// badSenders are senders that may not be: for one cause each, or for one that is easily overlooked.
func badSenders() []api.Sender {
	both := over("abcde")
	both.Ended = true
	bad := []api.Sender{
		// Data, Next and Max.
		open(full()+"a", 0, 0),
		open(full()+"a", 601, 700),
		open(full()+full(), 5, 700),
		open("abcde", -1, 5),
		open("abcde", math.MinInt, 5),
		open("abcde", 6, 9),
		open("", 1, 9),
		open("abcde", math.MaxInt, api.MaxVar),
		open("abcde", 4, 3),
		open("abcde", 1, 0),
		open("abcde", 0, -1),
		open("abcde", -1, -1),
		open("abcde", 0, math.MinInt),
		open("abcde", 0, api.MaxVar+1),
		open("abcde", 5, math.MaxInt),
		// Ended and Over.
		both,
		{Fin: true, Ended: true, Over: true},
		{Ended: true},
		{Over: true},
		{Ended: true, Over: true},
		with(over("abcde"), set(3, 4), set(2, 3)),
	}
	for _, s := range []api.Sender{ended("abcde"), over("abcde")} {
		s.Fin = false
		bad = append(bad, s)
		s.Fin, s.Next = true, 4
		bad = append(bad, s)
		s.Next = 0
		bad = append(bad, s)
	}
	for _, l := range badSets() {
		bad = append(bad, with(open("abcde", 4, 9), l, nil), with(open("abcde", 4, 9), nil, l))
	}
	for _, l := range commonSets() {
		bad = append(bad, with(open("abcdefghij", 10, 10), l[0], l[1]), with(open("abcdefghij", 10, 10), l[1], l[0]))
	}
	return bad
}

// badSets are no sets, or have numbers that are not below 4.
func badSets() [][]api.Range {
	return [][]api.Range{
		set(4, 4),
		set(0, 4),
		set(0, 0, 3, 4),
		set(0, 1, 5, 5),
		set(4, math.MaxInt),
		set(0, api.MaxVar),
		set(-1, 2),
		set(-1, -1),
		set(math.MinInt, 0),
		set(2, 1),
		set(0, 1, 2, 3),
		set(0, 2, 2, 3),
		set(2, 2, 0, 0),
		set(0, 0, 2, 2, 0, 0),
		set(0, 5, 2, 3),
		set(3, 9, 0, 1),
		set(0, -1),
	}
}

// commonSets have a number below 10 in common.
func commonSets() [][2][]api.Range {
	return [][2][]api.Range{
		{set(0, 0), set(0, 0)},
		{set(9, 9), set(9, 9)},
		{set(0, 9), set(5, 5)},
		{set(0, 5), set(5, 9)},
		{set(0, 4, 7, 9), set(6, 7)},
		{set(0, 0, 2, 2, 4, 4), set(4, 4)},
		{set(0, 0, 2, 2, 8, 8), set(1, 1, 3, 9)},
		{set(3, 4), set(0, 1, 4, 9)},
		{set(3, 4), set(0, 3)},
		{set(0, 0, 9, 9), set(4, 4, 8, 9)},
	}
}

// TestCheck: P10.1, senders that may be, and such that may not.
func TestCheck(t *testing.T) {
	for _, s := range goodSenders() {
		if e := Check(s); e != api.OK {
			t.Errorf("Check(%v) = %d, want 0", s, e)
		}
	}
	for _, s := range badSenders() {
		if e := Check(s); e != api.ErrState {
			t.Errorf("Check(%v) = %d, want %d", s, e, api.ErrState)
		}
	}
}

// TestWrite: P10.2, bytes, the end, and both; up to as many as may be.
func TestWrite(t *testing.T) {
	none := api.Sender{}
	sent := with(open("abcde", 4, 9), set(1, 1), set(3, 3))
	more := clone(sent)
	more.Data = []byte("abcdexyz")
	for _, c := range []struct {
		name string
		s    api.Sender
		text string
		fin  bool
		want api.Sender
		e    api.Errno
	}{
		{"the first ones", none, "abc", false, open("abc", 0, 0), api.OK},
		{"the first ones, and the end", none, "abc", true, shut("abc", 0, 0), api.OK},
		{"the end alone", open("abc", 2, 9), "", true, shut("abc", 2, 9), api.OK},
		{"the end of nothing", none, "", true, api.Sender{Fin: true}, api.OK},
		{"nothing", sent, "", false, sent, api.OK},
		{"behind others", sent, "xyz", false, more, api.OK},
		{"all room", none, full(), false, open(full(), 0, 0), api.OK},
		{"all room that is left", open(full()[:597], 3, 9), "789", true, shut(full(), 3, 9), api.OK},
		{"the end, without room", open(full(), 3, 9), "", true, shut(full(), 3, 9), api.OK},
		{"one too many", none, full() + "a", false, none, api.ErrFull},
		{"one too many behind others", open("a", 0, 0), full(), true, none, api.ErrFull},
		{"one without room", open(full(), 3, 9), "a", true, none, api.ErrFull},
		{"behind the end", shut("abc", 0, 9), "d", false, none, api.ErrDone},
		{"nothing behind the end", shut("abc", 0, 9), "", false, none, api.ErrDone},
		{"the end once more", shut("abc", 3, 9), "", true, none, api.ErrDone},
		{"behind the end that was sent", ended("abc"), "d", true, none, api.ErrDone},
		{"behind the end that was heard of", over("abc"), "d", true, none, api.ErrDone},
		{"too many behind the end", shut("abc", 0, 9), full(), false, none, api.ErrDone},
	} {
		if got, e := Write(c.s, []byte(c.text), c.fin); !same(got, c.want) || e != c.e {
			t.Errorf("%s: Write(%v, %q, %t) = %v, %d, want %v, %d", c.name, c.s, c.text, c.fin, got, e, c.want, c.e)
		}
	}
}

// TestGrant: P10.3, more than Max, less, and outside the bounds; all else stays.
func TestGrant(t *testing.T) {
	for _, s := range goodSenders() {
		for _, most := range []int{math.MinInt, -1, 0, 1, s.Next, s.Max - 1, s.Max, s.Max + 1, 300, api.MaxVar - 1, api.MaxVar, api.MaxVar + 1, math.MaxInt} {
			want, wrong := clone(s), api.OK
			if most > s.Max {
				want.Max = most
			}
			if most < 0 || most > api.MaxVar {
				want, wrong = api.Sender{}, api.ErrRange
			}
			if got, e := Grant(s, most); !same(got, want) || e != wrong {
				t.Errorf("Grant(%v, %d) = %v, %d, want %v, %d", s, most, got, e, want, wrong)
			}
		}
	}
}

// pieceCase is a sender, room and credit, and what is answered: the piece, if there is one, and the sender then.
type pieceCase struct {
	name         string
	s            api.Sender
	room, credit int
	ok           bool
	off          int
	text         string
	fin          bool
	want         api.Sender
}

func checkPieces(t *testing.T, l []pieceCase) {
	t.Helper()
	for _, c := range l {
		want := api.Frame{}
		if c.ok {
			want = api.Frame{Kind: api.Stream, Off: c.off, Fin: c.fin, Data: []byte(c.text)}
		}
		s, f, ok, e := Piece(c.s, c.room, c.credit)
		if !same(s, c.want) || !sameFrame(f, want) || ok != c.ok || e != api.OK {
			t.Errorf("%s: Piece(%v, %d, %d) = %v, %v, %t, %d, want %v, %v, %t, 0", c.name, c.s, c.room, c.credit, s, f, ok, e, c.want, want, c.ok)
		}
	}
}

// TestPieceNew: P10.4, Data from Next on, as room, credit and Max let it.
func TestPieceNew(t *testing.T) {
	text := full()
	checkPieces(t, []pieceCase{
		{"all", open("abcde", 0, 9), 9, 9, true, 0, "abcde", false, open("abcde", 5, 9)},
		{"the rest", open("abcde", 2, 9), 9, 9, true, 2, "cde", false, open("abcde", 5, 9)},
		{"as room lets", open("abcde", 1, 9), 2, 9, true, 1, "bc", false, open("abcde", 3, 9)},
		{"as credit lets", open("abcde", 1, 9), 9, 1, true, 1, "b", false, open("abcde", 2, 9)},
		{"as Max lets", open("abcde", 1, 4), 9, 9, true, 1, "bcd", false, open("abcde", 4, 4)},
		{"all three the same", open("abcde", 1, 4), 3, 3, true, 1, "bcd", false, open("abcde", 4, 4)},
		{"all of the room", open(text, 7, api.MaxVar), 120, math.MaxInt, true, 7, text[7:127], false, open(text, 127, api.MaxVar)},
		{"no room", open("abcde", 1, 9), 0, 9, false, 0, "", false, open("abcde", 1, 9)},
		{"no credit", open("abcde", 1, 9), 9, 0, false, 0, "", false, open("abcde", 1, 9)},
		{"nothing granted", open("abcde", 3, 3), 9, 9, false, 0, "", false, open("abcde", 3, 3)},
		{"nothing written", open("abcde", 5, 9), 9, 9, false, 0, "", false, open("abcde", 5, 9)},
		{"nothing at all", api.Sender{}, 0, 0, false, 0, "", false, api.Sender{}},
		{"what is Acked stays", with(open("abcde", 2, 9), nil, set(1, 1)), 9, 9, true, 2, "cde", false, with(open("abcde", 5, 9), nil, set(1, 1))},
	})
}

// TestPieceEnd: P10.4, the end, with bytes and without.
func TestPieceEnd(t *testing.T) {
	nothing, nothingEnded, nothingOver := api.Sender{Fin: true}, api.Sender{Fin: true, Ended: true}, api.Sender{Fin: true, Over: true}
	at5 := shut("abcde", 5, 5)
	at5Ended := at5
	at5Ended.Ended = true
	checkPieces(t, []pieceCase{
		{"with all bytes", shut("abcde", 0, 100), 9, 9, true, 0, "abcde", true, ended("abcde")},
		{"with the last byte", shut("abcde", 4, 100), 1, 1, true, 4, "e", true, ended("abcde")},
		{"not there yet, for room", shut("abcde", 0, 100), 4, 9, true, 0, "abcd", false, shut("abcde", 4, 100)},
		{"not there yet, for credit", shut("abcde", 0, 100), 9, 4, true, 0, "abcd", false, shut("abcde", 4, 100)},
		{"not there yet, for Max", shut("abcde", 0, 4), 9, 9, true, 0, "abcd", false, shut("abcde", 4, 4)},
		{"not there, for want of all", shut("abcde", 4, 4), 9, 9, false, 0, "", false, shut("abcde", 4, 4)},
		{"alone", shut("abcde", 5, 100), 9, 9, true, 5, "", true, ended("abcde")},
		{"alone, where nothing is granted any more", at5, 9, 9, true, 5, "", true, at5Ended},
		{"alone, without credit", shut("abcde", 5, 100), 9, 0, true, 5, "", true, ended("abcde")},
		{"alone, without room", shut("abcde", 5, 100), 0, 0, true, 5, "", true, ended("abcde")},
		{"of nothing", nothing, 9, 9, true, 0, "", true, nothingEnded},
		{"of nothing, without room", nothing, 0, 0, true, 0, "", true, nothingEnded},
		{"it was sent", ended("abcde"), 9, 9, false, 0, "", false, ended("abcde")},
		{"it was sent, of nothing", nothingEnded, 9, 9, false, 0, "", false, nothingEnded},
		{"it was heard of", over("abcde"), 9, 9, false, 0, "", false, over("abcde")},
		{"it was heard of, of nothing", nothingOver, 9, 9, false, 0, "", false, nothingOver},
	})
}

// TestPieceLost: P10.4, what is Lost goes ahead of all else, and takes no credit.
func TestPieceLost(t *testing.T) {
	some := with(open("abcdefgh", 7, 9), set(1, 2, 4, 6), set(3, 3))
	end := with(shut("abcde", 5, 100), set(3, 4), set(0, 2))
	lost := func(l ...int) api.Sender { return with(some, set(l...), set(3, 3)) }
	checkPieces(t, []pieceCase{
		{"side by side", some, 9, 9, true, 1, "bc", false, lost(4, 6)},
		{"all room", some, 2, 9, true, 1, "bc", false, lost(4, 6)},
		{"less room", some, 1, 9, true, 1, "b", false, lost(2, 2, 4, 6)},
		{"no credit", some, 9, 0, true, 1, "bc", false, lost(4, 6)},
		{"some of the last ones", lost(4, 6), 2, 0, true, 4, "ef", false, lost(6, 6)},
		{"the last one", lost(6, 6), 120, 0, true, 6, "g", false, lost()},
		{"no room", some, 0, 9, false, 0, "", false, some},
		{"from 0 on", with(open("abc", 3, 3), set(0, 2), nil), 9, 0, true, 0, "abc", false, open("abc", 3, 3)},
		{"more than the room", with(open(full(), 600, 600), set(0, 599), nil), 120, 0, true, 0, full()[:120], false, with(open(full(), 600, 600), set(120, 599), nil)},
		{"with the end", end, 9, 0, true, 3, "de", true, with(ended("abcde"), nil, set(0, 2))},
		{"with the end, all room", end, 2, 0, true, 3, "de", true, with(ended("abcde"), nil, set(0, 2))},
		{"ahead of the end", end, 1, 9, true, 3, "d", false, with(shut("abcde", 5, 100), set(4, 4), set(0, 2))},
		{"far from the end", with(shut("abcde", 5, 100), set(0, 1), nil), 9, 9, true, 0, "ab", false, shut("abcde", 5, 100)},
		{"the end alone, without room for the bytes", end, 0, 0, true, 5, "", true, with(ended("abcde"), set(3, 4), set(0, 2))},
		{"the end is on its way", with(ended("abcde"), set(3, 4), nil), 9, 9, true, 3, "de", false, ended("abcde")},
		{"the end was heard of", with(over("abcde"), set(3, 4), nil), 9, 9, true, 3, "de", false, over("abcde")},
		{"the end is not sent yet", with(shut("abcde", 4, 100), set(3, 3), nil), 9, 9, true, 3, "d", false, shut("abcde", 4, 100)},
		{"the end is not written yet", with(open("abcde", 5, 100), set(3, 4), nil), 9, 9, true, 3, "de", false, open("abcde", 5, 100)},
	})
}

// TestPieceRefuses: P10.4, room and credit outside their bounds.
func TestPieceRefuses(t *testing.T) {
	for _, s := range goodSenders() {
		for _, c := range [][2]int{
			{-1, 9}, {121, 9}, {math.MinInt, 9}, {math.MaxInt, 9},
			{9, -1}, {9, math.MinInt}, {0, -1}, {120, -1}, {-1, -1}, {121, math.MaxInt},
		} {
			if got, f, ok, e := Piece(s, c[0], c[1]); !same(got, api.Sender{}) || !sameFrame(f, api.Frame{}) || ok || e != api.ErrRange {
				t.Errorf("Piece(%v, %d, %d) = %v, %v, %t, %d, want nothing, %d", s, c[0], c[1], got, f, ok, e, api.ErrRange)
			}
		}
	}
}

// spanCase is a sender, bytes that are heard of, or lost, and what is answered.
type spanCase struct {
	name   string
	s      api.Sender
	off, n int
	fin    bool
	want   api.Sender
}

func checkSpans(t *testing.T, name string, call func(api.Sender, int, int, bool) (api.Sender, api.Errno), l []spanCase) {
	t.Helper()
	for _, c := range l {
		if got, e := call(c.s, c.off, c.n, c.fin); !same(got, c.want) || e != api.OK {
			t.Errorf("%s: %s(%v, %d, %d, %t) = %v, %d, want %v, 0", c.name, name, c.s, c.off, c.n, c.fin, got, e, c.want)
		}
	}
}

// TestHeard: P10.5, bytes that are Acked, and no longer Lost; the end.
func TestHeard(t *testing.T) {
	some := with(open("abcdefgh", 7, 9), set(1, 2, 4, 6), set(3, 3))
	are := func(lost, acked []api.Range) api.Sender { return with(some, lost, acked) }
	checkSpans(t, "Heard", Heard, []spanCase{
		{"the first ones", open("abcde", 5, 9), 0, 2, false, with(open("abcde", 5, 9), nil, set(0, 1))},
		{"the last ones", open("abcde", 5, 9), 3, 2, false, with(open("abcde", 5, 9), nil, set(3, 4))},
		{"all that was sent", open("abcde", 3, 9), 0, 3, false, with(open("abcde", 3, 9), nil, set(0, 2))},
		{"nothing", some, 1, 0, false, some},
		{"nothing at 0", api.Sender{}, 0, 0, false, api.Sender{}},
		{"nothing at Next", some, 7, 0, false, some},
		{"one that was Lost", some, 1, 1, false, are(set(2, 2, 4, 6), set(1, 1, 3, 3))},
		{"amid what was Lost", some, 5, 1, false, are(set(1, 2, 4, 4, 6, 6), set(3, 3, 5, 5))},
		{"beside what is Acked", some, 2, 1, false, are(set(1, 1, 4, 6), set(2, 3))},
		{"what is Acked", some, 3, 1, false, some},
		{"some of each", some, 2, 4, false, are(set(1, 1, 6, 6), set(2, 5))},
		{"all", some, 0, 7, false, are(nil, set(0, 6))},
		{"all, and no end", ended("abcde"), 0, 5, false, with(ended("abcde"), nil, set(0, 4))},
		{"the end alone", ended("abcde"), 5, 0, true, over("abcde")},
		{"the end, and all", ended("abcde"), 0, 5, true, with(over("abcde"), nil, set(0, 4))},
		{"the end, and some", with(ended("abcde"), set(1, 3), nil), 3, 2, true, with(over("abcde"), set(1, 2), set(3, 4))},
		{"the end of nothing", api.Sender{Fin: true, Ended: true}, 0, 0, true, api.Sender{Fin: true, Over: true}},
		{"the end that was lost", shut("abcde", 5, 100), 4, 1, true, with(over("abcde"), nil, set(4, 4))},
		{"the end once more", over("abcde"), 4, 1, true, with(over("abcde"), nil, set(4, 4))},
		{"some when it is Over", over("abcde"), 1, 1, false, with(over("abcde"), nil, set(1, 1))},
	})
}

// TestLose: P10.6, bytes that are Lost, but for those that are Acked; the end.
func TestLose(t *testing.T) {
	some := with(open("abcdefgh", 7, 9), set(1, 1), set(3, 3, 5, 5))
	lost := func(l ...int) api.Sender { return with(some, set(l...), set(3, 3, 5, 5)) }
	checkSpans(t, "Lose", Lose, []spanCase{
		{"the first ones", open("abcde", 5, 9), 0, 2, false, with(open("abcde", 5, 9), set(0, 1), nil)},
		{"the last ones", open("abcde", 5, 9), 3, 2, false, with(open("abcde", 5, 9), set(3, 4), nil)},
		{"all that was sent", open("abcde", 3, 9), 0, 3, false, with(open("abcde", 3, 9), set(0, 2), nil)},
		{"nothing", some, 1, 0, false, some},
		{"nothing at 0", api.Sender{}, 0, 0, false, api.Sender{}},
		{"nothing at Next", some, 7, 0, false, some},
		{"what is Lost", some, 1, 1, false, some},
		{"beside what is Lost", some, 0, 1, false, lost(0, 1)},
		{"what is Acked", some, 3, 1, false, some},
		{"beside what is Acked", some, 4, 1, false, lost(1, 1, 4, 4)},
		{"over what is Acked", some, 2, 3, false, lost(1, 2, 4, 4)},
		{"up to what is Acked", some, 4, 2, false, lost(1, 1, 4, 4)},
		{"all", some, 0, 7, false, lost(0, 2, 4, 4, 6, 6)},
		{"all when all is Acked", with(over("abcde"), nil, set(0, 4)), 0, 5, true, with(over("abcde"), nil, set(0, 4))},
		{"all, and not the end", ended("abcde"), 0, 5, false, with(ended("abcde"), set(0, 4), nil)},
		{"the end alone", ended("abcde"), 5, 0, true, shut("abcde", 5, 100)},
		{"the end, and all", ended("abcde"), 0, 5, true, with(shut("abcde", 5, 100), set(0, 4), nil)},
		{"the end, and some", with(ended("abcde"), nil, set(3, 3)), 2, 3, true, with(shut("abcde", 5, 100), set(2, 2, 4, 4), set(3, 3))},
		{"the end of nothing", api.Sender{Fin: true, Ended: true}, 0, 0, true, api.Sender{Fin: true}},
		{"the end once more", shut("abcde", 5, 100), 4, 1, true, with(shut("abcde", 5, 100), set(4, 4), nil)},
		{"the end that was heard of", over("abcde"), 4, 1, true, with(over("abcde"), set(4, 4), nil)},
	})
}

// TestNeverSent: P10.5 and P10.6, bytes, and an end, that were never sent.
func TestNeverSent(t *testing.T) {
	for _, c := range []struct {
		name   string
		s      api.Sender
		off, n int
		fin    bool
	}{
		{"n below 0", open("abcde", 5, 9), 2, -1, false},
		{"n far below 0", open("abcde", 5, 9), 5, math.MinInt, false},
		{"n below 0, the end", ended("abcde"), 5, -1, true},
		{"off below 0", open("abcde", 5, 9), -1, 1, false},
		{"off below 0, up to the end", ended("abcde"), -1, 6, true},
		{"off far below 0", open("abcde", 5, 9), math.MinInt, 0, false},
		{"off far below 0, and n below 0", open("abcde", 5, 9), math.MinInt, math.MinInt, false},
		{"off above Next", open("abcde", 4, 9), 5, 0, false},
		{"off far above Next", open("abcde", 4, 9), math.MaxInt, 0, false},
		{"off and n whose sum goes round", open("abcde", 4, 9), math.MaxInt, math.MaxInt, false},
		{"off and n whose sum goes round to 0", open("abcde", 4, 9), math.MaxInt, math.MinInt + 1, false},
		{"off that is sent, and n up to the highest number", open("abcde", 4, 9), 1, math.MaxInt, false},
		{"one more than was sent", open("abcde", 4, 9), 0, 5, false},
		{"one more at Next", open("abcde", 4, 9), 4, 1, false},
		{"one where nothing was sent", open("abcde", 0, 9), 0, 1, false},
		{"one of nothing", api.Sender{}, 0, 1, false},
		{"one behind the end", ended("abcde"), 0, 6, false},
		{"the end, and one behind it", ended("abcde"), 0, 6, true},
		{"an end that was not written", open("abcde", 5, 9), 0, 5, true},
		{"an end of nothing that was not written", api.Sender{}, 0, 0, true},
		{"an end ahead of which not all was sent", shut("abcde", 4, 9), 0, 4, true},
		{"an end ahead of which nothing was sent", shut("abcde", 0, 9), 0, 0, true},
		{"an end elsewhere", ended("abcde"), 0, 4, true},
		{"an end at 0", ended("abcde"), 0, 0, true},
		{"an end elsewhere, when it is Over", over("abcde"), 4, 0, true},
	} {
		if got, e := Heard(c.s, c.off, c.n, c.fin); !same(got, api.Sender{}) || e != api.ErrAck {
			t.Errorf("%s: Heard(%v, %d, %d, %t) = %v, %d, want nothing, %d", c.name, c.s, c.off, c.n, c.fin, got, e, api.ErrAck)
		}
		if got, e := Lose(c.s, c.off, c.n, c.fin); !same(got, api.Sender{}) || e != api.ErrAck {
			t.Errorf("%s: Lose(%v, %d, %d, %t) = %v, %d, want nothing, %d", c.name, c.s, c.off, c.n, c.fin, got, e, api.ErrAck)
		}
	}
}

// TestOver: P10.7, the end, and all bytes, must be heard of.
func TestOver(t *testing.T) {
	for _, c := range []struct {
		name string
		s    api.Sender
		want bool
	}{
		{"nothing written", api.Sender{}, false},
		{"the end of nothing", api.Sender{Fin: true}, false},
		{"the end of nothing, sent", api.Sender{Fin: true, Ended: true}, false},
		{"the end of nothing, heard of", api.Sender{Fin: true, Over: true}, true},
		{"all but the end", with(open("abcde", 5, 9), nil, set(0, 4)), false},
		{"all but the end, which is not sent", with(shut("abcde", 5, 9), nil, set(0, 4)), false},
		{"all but the end, which is sent", with(ended("abcde"), nil, set(0, 4)), false},
		{"all", with(over("abcde"), nil, set(0, 4)), true},
		{"all of one byte", with(over("a"), nil, set(0, 0)), true},
		{"the end alone", over("abcde"), false},
		{"all but the first one", with(over("abcde"), nil, set(1, 4)), false},
		{"all but the last one", with(over("abcde"), nil, set(0, 3)), false},
		{"all but one between", with(over("abcde"), nil, set(0, 1, 3, 4)), false},
		{"all but one that is Lost", with(over("abcde"), set(2, 2), set(0, 1, 3, 4)), false},
	} {
		if got, e := Over(c.s); got != c.want || e != api.OK {
			t.Errorf("%s: Over(%v) = %t, %d, want %t, 0", c.name, c.s, got, e, c.want)
		}
	}
}

// TestState: P10.2 to P10.7, what Check refuses is told ahead of all else.
func TestState(t *testing.T) {
	none := api.Sender{}
	for _, bad := range badSenders() {
		for _, n := range []int{0, 1, 5, 120, 121, -1, math.MinInt, api.MaxVar + 1, math.MaxInt} {
			for _, fin := range []bool{false, true} {
				if s, e := Heard(bad, n, n, fin); !same(s, none) || e != api.ErrState {
					t.Errorf("Heard(%v, %d, %d, %t) = %v, %d", bad, n, n, fin, s, e)
				}
				if s, e := Lose(bad, n, n, fin); !same(s, none) || e != api.ErrState {
					t.Errorf("Lose(%v, %d, %d, %t) = %v, %d", bad, n, n, fin, s, e)
				}
				if s, e := Write(bad, []byte(full()), fin); !same(s, none) || e != api.ErrState {
					t.Errorf("Write(%v, %t) = %v, %d", bad, fin, s, e)
				}
			}
			if s, f, ok, e := Piece(bad, n, n); !same(s, none) || !sameFrame(f, api.Frame{}) || ok || e != api.ErrState {
				t.Errorf("Piece(%v, %d, %d) = %v, %v, %t, %d", bad, n, n, s, f, ok, e)
			}
			if s, e := Grant(bad, n); !same(s, none) || e != api.ErrState {
				t.Errorf("Grant(%v, %d) = %v, %d", bad, n, s, e)
			}
		}
		if yes, e := Over(bad); yes || e != api.ErrState {
			t.Errorf("Over(%v) = %t, %d", bad, yes, e)
		}
	}
}

// fate of a byte.
type fate int

const (
	kept fate = iota
	sent
	lost
	acked
)

// model of a sender: the fate of each byte.
type model struct {
	data        []byte
	fates       []fate
	most        int
	fin         bool
	ended, over bool
}

// next byte to be sent for the first time.
func (m *model) next() int {
	if at := slices.Index(m.fates, kept); at >= 0 {
		return at
	}
	return len(m.fates)
}

// all bytes of one fate, as a set.
func (m *model) all(f fate) []api.Range {
	var l []api.Range
	for i, x := range m.fates {
		switch {
		case x != f:
		case i > 0 && m.fates[i-1] == f:
			l[len(l)-1].Hi = i
		default:
			l = append(l, api.Range{Lo: i, Hi: i})
		}
	}
	return l
}

func (m *model) sender() api.Sender {
	return api.Sender{Data: m.data, Fin: m.fin, Next: m.next(), Max: m.most, Lost: m.all(lost), Acked: m.all(acked), Ended: m.ended, Over: m.over}
}

// write to a model.
func (m *model) write(b []byte, fin bool) api.Errno {
	if m.fin {
		return api.ErrDone
	}
	m.data = append(m.data, b...)
	m.fates = append(m.fates, make([]fate, len(b))...)
	m.fin = fin
	return api.OK
}

// piece of a model, byte by byte.
func (m *model) piece(room, credit int) (api.Frame, bool) {
	f := api.Frame{Kind: api.Stream, Off: m.next()}
	again := slices.Index(m.fates, lost)
	if again >= 0 && room > 0 {
		f.Off = again
	}
	at := f.Off
	for ; at < len(m.fates) && len(f.Data) < room && m.fates[at] == m.fates[f.Off]; at++ {
		if m.fates[at] == kept && (len(f.Data) == credit || at == m.most) {
			break
		}
		f.Data = append(f.Data, m.data[at])
	}
	for i := range f.Data {
		m.fates[f.Off+i] = sent
	}
	f.Fin = m.fin && !m.ended && !m.over && at == len(m.data)
	if len(f.Data) == 0 && !f.Fin {
		return api.Frame{}, false
	}
	m.ended = m.ended || f.Fin
	return f, true
}

// wrong tells whether bytes, or an end, were never sent.
func (m *model) wrong(off, n int, fin bool) bool {
	for at := off; at < off+n; at++ {
		if at < 0 || at >= len(m.fates) || m.fates[at] == kept {
			return true
		}
	}
	return off < 0 || n < 0 || off > m.next() || fin && (!m.fin || m.next() < len(m.data) || off+n < len(m.data))
}

// heard of bytes, perhaps the end.
func (m *model) heard(off, n int, fin bool) api.Errno {
	if m.wrong(off, n, fin) {
		return api.ErrAck
	}
	for at := range n {
		m.fates[off+at] = acked
	}
	if fin {
		m.ended, m.over = false, true
	}
	return api.OK
}

// lose bytes, perhaps the end.
func (m *model) lose(off, n int, fin bool) api.Errno {
	if m.wrong(off, n, fin) {
		return api.ErrAck
	}
	for at := range n {
		if m.fates[off+at] == sent {
			m.fates[off+at] = lost
		}
	}
	if fin {
		m.ended = false
	}
	return api.OK
}

// overAll tells whether the end, and all bytes, of a model were heard of.
func (m *model) overAll() bool {
	return m.over && !slices.ContainsFunc(m.fates, func(f fate) bool { return f != acked })
}

// TestModel: P10.1 to P10.7, many steps, by chance, right ones and wrong ones.
func TestModel(t *testing.T) {
	chance := rand.New(rand.NewPCG(10, 1010))
	seen := map[string]int{}
	for range 4000 {
		m, s := &model{}, api.Sender{}
		for range 40 {
			s = move(t, chance, seen, m, s)
			yes, e := Over(s)
			if Check(s) != api.OK || !same(s, m.sender()) || yes != m.overAll() || e != api.OK {
				t.Fatalf("the sender is %v, over %t, want %v, %t", s, yes, m.sender(), m.overAll())
			}
			if yes {
				seen["over"]++
			}
		}
	}
	for _, what := range []string{"0", "13", "17", "bytes", "the end", "no piece", "over"} {
		if seen[what] < 1000 {
			t.Errorf("%s: only %d times", what, seen[what])
		}
	}
}

// move a model and a sender one step on, by chance.
func move(t *testing.T, chance *rand.Rand, seen map[string]int, m *model, s api.Sender) api.Sender {
	t.Helper()
	was, got, e, want := clone(s), s, api.OK, api.OK
	off, n, fin := chance.IntN(14)-1, chance.IntN(8)-1, chance.IntN(4) == 0
	if fin && chance.IntN(2) == 0 {
		n = len(s.Data) - off
	}
	switch chance.IntN(6) {
	case 0:
		b := []byte("abcdef")[:chance.IntN(7)]
		got, e = Write(s, b, fin)
		want = m.write(b, fin)
	case 1:
		m.most = max(m.most, off+n+3)
		got, e = Grant(s, max(0, off+n+3))
	case 2, 3:
		room, credit := chance.IntN(7), chance.IntN(7)
		f, ok := m.piece(room, credit)
		var gotFrame api.Frame
		var gotOk bool
		got, gotFrame, gotOk, e = Piece(s, room, credit)
		if !sameFrame(gotFrame, f) || gotOk != ok || ok && frame.Check(gotFrame) != api.OK {
			t.Fatalf("Piece(%v, %d, %d) = %v, %t, want %v, %t", was, room, credit, gotFrame, gotOk, f, ok)
		}
		seen[map[bool]string{true: "bytes", false: "no piece"}[ok]]++
		if f.Fin {
			seen["the end"]++
		}
	case 4:
		got, e = Heard(s, off, n, fin)
		want = m.heard(off, n, fin)
	case 5:
		got, e = Lose(s, off, n, fin)
		want = m.lose(off, n, fin)
	}
	seen[map[api.Errno]string{0: "0", 13: "13", 17: "17"}[e]]++
	if !same(s, was) {
		t.Fatalf("the sender %v was changed to %v", was, s)
	}
	if e != want || e != api.OK && !same(got, api.Sender{}) {
		t.Fatalf("a step from %v (%d, %d, %t) = %v, %d, want %d", was, off, n, fin, got, e, want)
	}
	if e != api.OK {
		return s
	}
	return got
}

// TestAllComes: P10.2 to P10.7, a text is sent in pieces, of which every third one is lost, till all was heard of.
func TestAllComes(t *testing.T) {
	text := full()
	s, _ := Write(api.Sender{}, []byte(text), true)
	came := make([]byte, len(text))
	for turn := 1; turn < 1000; turn++ {
		s, _ = Grant(s, 7*turn)
		next, f, ok, e := Piece(s, 40, 11)
		if e != api.OK {
			t.Fatalf("Piece(%v) = %d", s, e)
		}
		switch {
		case !ok:
			s = next
		case turn%3 == 0:
			s, e = Lose(next, f.Off, len(f.Data), f.Fin)
		default:
			copy(came[f.Off:], f.Data)
			s, e = Heard(next, f.Off, len(f.Data), f.Fin)
		}
		if e != api.OK {
			t.Fatalf("turn %d, piece %v: %d", turn, f, e)
		}
		if yes, _ := Over(s); yes {
			if string(came) != text {
				t.Errorf("%q came, want %q", came, text)
			}
			return
		}
	}
	t.Errorf("it is never over: %v", s)
}

// mirror of a list, with spare room behind it that is filled, too.
func mirror[E any](l []E, spare E) []E {
	roomy := append(make([]E, 0, len(l)+20), l...)
	for i := range roomy[len(l):cap(roomy)] {
		roomy[:cap(roomy)][len(l)+i] = spare
	}
	return roomy
}

// roomy is a sender with spare room in all its lists.
func roomy(s api.Sender) api.Sender {
	s.Data = mirror(s.Data, 'x')
	s.Lost = mirror(s.Lost, api.Range{Lo: 77, Hi: 77})
	s.Acked = mirror(s.Acked, api.Range{Lo: 88, Hi: 88})
	return s
}

// wide is a sender with all spare room told, too.
func wide(s api.Sender) api.Sender {
	s.Data, s.Lost, s.Acked = s.Data[:cap(s.Data)], s.Lost[:cap(s.Lost)], s.Acked[:cap(s.Acked)]
	return s
}

// spoil all that an answer has, its spare room too.
func spoil(s api.Sender) {
	s = wide(s)
	for i := range s.Data {
		s.Data[i] = '!'
	}
	for _, l := range [][]api.Range{s.Lost, s.Acked} {
		for i := range l {
			l[i] = api.Range{Lo: -7, Hi: -7}
		}
	}
}

// TestNewMemory: P10.2 to P10.6, what is handed in stays as it is, its spare room too; what is answered shares nothing with it.
func TestNewMemory(t *testing.T) {
	calls := map[string]func(s api.Sender, b []byte) (api.Sender, []byte){
		"Write": func(s api.Sender, b []byte) (api.Sender, []byte) {
			s, _ = Write(s, b, false)
			return s, nil
		},
		"Grant": func(s api.Sender, b []byte) (api.Sender, []byte) {
			s, _ = Grant(s, 200)
			return s, nil
		},
		"Piece": func(s api.Sender, b []byte) (api.Sender, []byte) {
			s, f, _, _ := Piece(s, 1, 1)
			return s, f.Data
		},
		"no Piece": func(s api.Sender, b []byte) (api.Sender, []byte) {
			s, f, _, _ := Piece(s, 0, 0)
			return s, f.Data
		},
		"Heard": func(s api.Sender, b []byte) (api.Sender, []byte) {
			s, _ = Heard(s, s.Next/2, s.Next-s.Next/2, false)
			return s, nil
		},
		"Heard of nothing": func(s api.Sender, b []byte) (api.Sender, []byte) {
			s, _ = Heard(s, 0, 0, false)
			return s, nil
		},
		"Lose": func(s api.Sender, b []byte) (api.Sender, []byte) {
			s, _ = Lose(s, s.Next/2, s.Next-s.Next/2, false)
			return s, nil
		},
		"Lose nothing": func(s api.Sender, b []byte) (api.Sender, []byte) {
			s, _ = Lose(s, 0, 0, false)
			return s, nil
		},
	}
	for name, call := range calls {
		for _, s := range goodSenders() {
			s, b := roomy(s), mirror([]byte("new"), 'y')
			was, wasBytes := clone(wide(s)), bytes.Clone(b[:cap(b)])
			got, data := call(s, b)
			want, wantData := clone(got), bytes.Clone(data)
			for i := range data[:cap(data)] {
				data[:cap(data)][i] = '?'
			}
			if !same(got, want) {
				t.Errorf("%s of %v: the piece shares memory with the sender", name, s)
			}
			again, dataAgain := call(s, b)
			spoil(got)
			if !same(wide(s), was) || !bytes.Equal(b[:cap(b)], wasBytes) {
				t.Errorf("%s of %v: what is handed in was changed, or is shared", name, s)
			}
			if !same(again, want) || !bytes.Equal(dataAgain, wantData) {
				t.Errorf("%s of %v: once more = %v, %q, want %v, %q", name, s, again, dataAgain, want, wantData)
			}
		}
	}
}

// TestOwnLists: P10.4 to P10.6, no two lists of one answer share memory: what is put behind one does not reach another.
func TestOwnLists(t *testing.T) {
	s, _, _, _ := Piece(shut("abcdefghij", 0, 100), 10, 10)
	s, _ = Heard(s, 2, 3, false)
	s, _ = Lose(s, 0, 10, true)
	for name, got := range map[string]api.Sender{
		"Lose":  s,
		"Piece": first(Piece(s, 1, 0)),
		"Heard": second(Heard(s, 0, 1, false)),
		"Grant": second(Grant(s, 200)),
	} {
		want := clone(got)
		_ = append(got.Lost, api.Range{Lo: 7, Hi: 7})
		_ = append(got.Acked, api.Range{Lo: 8, Hi: 8})
		for i := range got.Lost[:cap(got.Lost)] {
			got.Lost[:cap(got.Lost)][i] = api.Range{}
		}
		if !slices.Equal(got.Acked, want.Acked) || !bytes.Equal(got.Data, want.Data) {
			t.Errorf("%s: Lost shares memory: %v, want %v", name, got, want)
		}
	}
}

func first(s api.Sender, _ api.Frame, _ bool, _ api.Errno) api.Sender { return s }

func second(s api.Sender, _ api.Errno) api.Sender { return s }
