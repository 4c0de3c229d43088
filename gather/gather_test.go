package gather

import (
	"bytes"
	"maps"
	"math"
	"math/rand/v2"
	"slices"
	"strings"
	"testing"

	"spillway/api"
)

// piece of a text, from a place on.
func piece(off int, text string) api.Piece {
	return api.Piece{Off: off, Data: []byte(text)}
}

// state of what is gathered.
func state(done, final, window int, held ...api.Piece) api.Gather {
	return api.Gather{Done: done, Held: held, Final: final, Window: window}
}

// same tells whether two states are: a list without elements may be nil or not.
func same(a, b api.Gather) bool {
	return a.Done == b.Done && a.Final == b.Final && a.Window == b.Window && slices.EqualFunc(a.Held, b.Held, samePiece)
}

func samePiece(a, b api.Piece) bool {
	return a.Off == b.Off && bytes.Equal(a.Data, b.Data)
}

// clone of a state.
func clone(g api.Gather) api.Gather {
	g.Held = slices.Clone(g.Held)
	for i, p := range g.Held {
		g.Held[i].Data = bytes.Clone(p.Data)
	}
	return g
}

// goodStates are states that may be.
func goodStates() []api.Gather {
	return []api.Gather{
		state(0, -1, 0),
		state(0, 0, 0),
		{},
		{Held: []api.Piece{}},
		state(5, -1, 5),
		state(5, 5, 5),
		state(5, 5, 9),
		state(5, 9, 9),
		state(5, 10, 9),
		state(5, math.MaxInt, 9),
		state(api.MaxVar, -1, api.MaxVar),
		state(api.MaxVar, api.MaxVar, api.MaxVar),
		state(0, -1, api.MaxVar),
		state(0, -1, 2, piece(0, "ab")),
		state(0, 2, 2, piece(0, "ab")),
		state(0, 3, 2, piece(0, "ab")),
		state(3, -1, 9, piece(3, "a")),
		state(3, -1, 9, piece(4, "a")),
		state(3, 9, 9, piece(3, "a"), piece(5, "a"), piece(7, "ab")),
		state(0, -1, 7, piece(0, "a"), piece(2, "a"), piece(4, "a"), piece(6, "a")),
		state(1, 8, 8, piece(1, "a"), piece(3, "a"), piece(5, "a"), piece(7, "a")),
		state(0, -1, api.MaxVar, piece(api.MaxVar-1, "a")),
		state(0, api.MaxVar, api.MaxVar, piece(0, "a"), piece(api.MaxVar-2, "ab")),
		state(0, -1, 1000, piece(0, strings.Repeat("a", 500)), piece(501, strings.Repeat("b", 499))),
	}
}

// badStates are states that may not be: for one cause each, or for one that is easily overlooked.
func badStates() []api.Gather {
	return []api.Gather{
		// Done, Window and Final.
		state(-1, -1, 9),
		state(math.MinInt, -1, math.MaxInt),
		state(0, -1, -1),
		state(-5, -1, -3),
		state(6, -1, 5),
		state(0, -1, api.MaxVar+1),
		state(api.MaxVar+1, -1, api.MaxVar+1),
		state(0, -1, math.MaxInt),
		state(0, -1, math.MinInt),
		state(0, -2, 9),
		state(0, math.MinInt, 9),
		// The reach, where nothing is Held, and where something is.
		state(5, 4, 9),
		state(1, 0, 9),
		state(0, 1, 9, piece(0, "ab")),
		state(0, 4, 9, piece(0, "a"), piece(3, "ab")),
		state(0, 0, 9, piece(0, "a")),
		state(0, -1, 5, piece(4, "ab")),
		state(0, -1, 5, piece(5, "a")),
		state(0, 9, 5, piece(0, "a"), piece(3, "abc")),
		// Too many pieces, though they would do otherwise.
		state(0, -1, 99, piece(0, "a"), piece(2, "a"), piece(4, "a"), piece(6, "a"), piece(8, "a")),
		state(0, -1, 99, piece(1, "a"), piece(3, "a"), piece(5, "a"), piece(7, "a"), piece(9, "a"), piece(11, "a")),
		// A piece without bytes.
		state(0, -1, 9, piece(0, "")),
		state(0, -1, 9, piece(3, "")),
		state(0, -1, 9, api.Piece{}),
		state(0, -1, 9, piece(0, "a"), piece(3, ""), piece(5, "a")),
		state(0, -1, 9, piece(0, "a"), piece(3, "")),
		// The first one ahead of Done.
		state(0, -1, 9, piece(-1, "abc")),
		state(3, -1, 9, piece(2, "a")),
		state(3, -1, 9, piece(2, "ab")),
		state(3, -1, 9, piece(0, "a"), piece(5, "a")),
		state(3, -1, 9, piece(math.MinInt, "a")),
		// One that touches or overlaps the one ahead, or stands ahead of it.
		state(0, -1, 9, piece(0, "a"), piece(1, "a")),
		state(0, -1, 9, piece(0, "abc"), piece(2, "ab")),
		state(0, -1, 9, piece(0, "abc"), piece(0, "abc")),
		state(0, -1, 9, piece(4, "a"), piece(2, "a")),
		state(0, -1, 9, piece(4, "a"), piece(-3, "a")),
		state(0, -1, 9, piece(0, "a"), piece(2, "a"), piece(4, "ab"), piece(6, "a")),
		state(0, -1, 9, piece(0, "a"), piece(4, "a"), piece(2, "a"), piece(6, "a")),
		// One that ends above MaxVar.
		state(0, -1, api.MaxVar, piece(api.MaxVar, "a")),
		state(0, -1, api.MaxVar, piece(api.MaxVar-1, "ab")),
		state(0, -1, api.MaxVar, piece(math.MaxInt, "a")),
		state(0, -1, api.MaxVar, piece(math.MaxInt-1, "ab")),
		state(0, -1, api.MaxVar, piece(1, "a"), piece(math.MaxInt, "a")),
		state(0, -1, api.MaxVar, piece(1, "a"), piece(math.MaxInt, "ab"), piece(3, "a")),
	}
}

// TestCheck: P8.1, states that may be, and such that may not.
func TestCheck(t *testing.T) {
	for _, g := range goodStates() {
		if e := Check(g); e != api.OK {
			t.Errorf("Check(%v) = %d, want 0", g, e)
		}
	}
	for _, g := range badStates() {
		if e := Check(g); e != api.ErrState {
			t.Errorf("Check(%v) = %d, want %d", g, e, api.ErrState)
		}
	}
}

// TestBegin: P8.2, windows within the bounds, and outside them.
func TestBegin(t *testing.T) {
	for _, window := range []int{0, 1, 2, api.MaxWindow, api.MaxVar - 1, api.MaxVar} {
		if g, e := Begin(window); !same(g, state(0, -1, window)) || e != api.OK || Check(g) != api.OK {
			t.Errorf("Begin(%d) = %v, %d", window, g, e)
		}
	}
	for _, window := range []int{-1, -2, math.MinInt, api.MaxVar + 1, math.MaxInt} {
		if g, e := Begin(window); !same(g, api.Gather{}) || e != api.ErrRange {
			t.Errorf("Begin(%d) = %v, %d, want nothing, %d", window, g, e, api.ErrRange)
		}
	}
}

// putCase is a state, a piece that is put into it, and what is answered: the state after it, or an error.
type putCase struct {
	name string
	g    api.Gather
	off  int
	text string
	fin  bool
	want api.Gather
	e    api.Errno
}

func checkPuts(t *testing.T, l []putCase) {
	t.Helper()
	for _, c := range l {
		got, e := Put(c.g, c.off, []byte(c.text), c.fin)
		if !same(got, c.want) || e != c.e {
			t.Errorf("%s: Put(%v, %d, %q, %t) = %v, %d, want %v, %d", c.name, c.g, c.off, c.text, c.fin, got, e, c.want, c.e)
		}
		if e == api.OK && Check(got) != api.OK {
			t.Errorf("%s: Put(%v, %d, %q, %t) = %v, which may not be", c.name, c.g, c.off, c.text, c.fin, got)
		}
	}
}

// TestPut: P8.3, where the bytes go: those that are there already stay as they are, and pieces that touch are one.
func TestPut(t *testing.T) {
	two := state(2, -1, 20, piece(4, "ef"), piece(8, "ij"))
	with := func(l ...api.Piece) api.Gather { return state(2, -1, 20, l...) }
	checkPuts(t, []putCase{
		{"the first one", state(0, -1, 9), 0, "ab", false, state(0, -1, 9, piece(0, "ab")), 0},
		{"behind a gap", state(0, -1, 9), 3, "ab", false, state(0, -1, 9, piece(3, "ab")), 0},
		{"up to Window", state(0, -1, 9), 3, "abcdef", false, state(0, -1, 9, piece(3, "abcdef")), 0},
		{"at Done", two, 2, "X", false, with(piece(2, "X"), piece(4, "ef"), piece(8, "ij")), 0},
		{"all Done", two, 0, "XY", false, two, 0},
		{"half of it Done", two, 1, "XY", false, with(piece(2, "Y"), piece(4, "ef"), piece(8, "ij")), 0},
		{"ahead of one, and touches it", two, 3, "X", false, with(piece(3, "Xef"), piece(8, "ij")), 0},
		{"ahead of one, and overlaps it", two, 2, "XYZ", false, with(piece(2, "XYef"), piece(8, "ij")), 0},
		{"all Held", two, 4, "XY", false, two, 0},
		{"one of two Held", two, 9, "X", false, two, 0},
		{"behind one, and touches it", two, 6, "X", false, with(piece(4, "efX"), piece(8, "ij")), 0},
		{"behind one, and overlaps it", two, 5, "XY", false, with(piece(4, "efY"), piece(8, "ij")), 0},
		{"between two, and touches both", two, 6, "XY", false, with(piece(4, "efXYij")), 0},
		{"between two, and overlaps both", two, 5, "WXYZ", false, with(piece(4, "efXYij")), 0},
		{"between two, and touches the next one", two, 7, "X", false, with(piece(4, "ef"), piece(7, "Xij")), 0},
		{"around one", two, 3, "WXYZ", false, with(piece(3, "WefZ"), piece(8, "ij")), 0},
		{"around all", two, 0, "0123456789AB", false, with(piece(2, "23ef67ijAB")), 0},
		{"behind all, and touches", two, 10, "XY", false, with(piece(4, "ef"), piece(8, "ijXY")), 0},
		{"behind all", two, 11, "XY", false, with(piece(4, "ef"), piece(8, "ij"), piece(11, "XY")), 0},
		{"no bytes", two, 6, "", false, two, 0},
		{"no bytes at 0", two, 0, "", false, two, 0},
		{"no bytes in a gap", two, 3, "", false, two, 0},
		{"no bytes at Window", two, 20, "", false, two, 0},
		{"at the highest place", state(0, -1, api.MaxVar), api.MaxVar - 1, "a", true, state(0, api.MaxVar, api.MaxVar, piece(api.MaxVar-1, "a")), 0},
	})
}

// TestPutEnd: P8.3, the end, which may come at any time, and again, but always at the same place.
func TestPutEnd(t *testing.T) {
	open := state(2, -1, 9, piece(4, "ef"))
	ended := state(2, 8, 9, piece(4, "ef"))
	checkPuts(t, []putCase{
		{"an end behind a gap", open, 7, "X", true, state(2, 8, 9, piece(4, "ef"), piece(7, "X")), 0},
		{"an end that touches", open, 6, "X", true, state(2, 7, 9, piece(4, "efX")), 0},
		{"an end at the reach", open, 3, "XYZ", true, state(2, 6, 9, piece(3, "Xef")), 0},
		{"an end without bytes at the reach", open, 6, "", true, state(2, 6, 9, piece(4, "ef")), 0},
		{"an end without bytes behind it", open, 8, "", true, ended, 0},
		{"an end without bytes at Window", open, 9, "", true, state(2, 9, 9, piece(4, "ef")), 0},
		{"an end at Done", state(2, -1, 9), 0, "XY", true, state(2, 2, 9), 0},
		{"an end at 0", state(0, -1, 0), 0, "", true, state(0, 0, 0), 0},
		{"the end again", ended, 8, "", true, ended, 0},
		{"the end again, with bytes", ended, 6, "XY", true, state(2, 8, 9, piece(4, "efXY")), 0},
		{"up to the end, which isn't told", ended, 7, "X", false, state(2, 8, 9, piece(4, "ef"), piece(7, "X")), 0},
		{"ahead of the end", ended, 2, "X", false, state(2, 8, 9, piece(2, "X"), piece(4, "ef")), 0},
		{"a Final above what a number may be", state(2, math.MaxInt, 9), 2, "X", false, state(2, math.MaxInt, 9, piece(2, "X")), 0},
	})
}

// TestPutFull: P8.3, more pieces than may be, and such as become fewer by being put.
func TestPutFull(t *testing.T) {
	four := state(0, -1, 20, piece(1, "b"), piece(3, "d"), piece(5, "f"), piece(7, "h"))
	with := func(l ...api.Piece) api.Gather { return state(0, -1, 20, l...) }
	none := api.Gather{}
	checkPuts(t, []putCase{
		{"the fourth one", with(piece(1, "b"), piece(3, "d"), piece(5, "f")), 7, "h", false, four, 0},
		{"a fifth one behind", four, 9, "X", false, none, api.ErrFull},
		{"a fifth one that is the end", four, 9, "X", true, none, api.ErrFull},
		{"a fifth one ahead", with(piece(2, "c"), piece(4, "e"), piece(6, "g"), piece(8, "i")), 0, "X", false, none, api.ErrFull},
		{"a fifth one between", with(piece(0, "a"), piece(4, "e"), piece(6, "g"), piece(8, "i")), 2, "X", false, none, api.ErrFull},
		{"touches the first one", four, 0, "a", false, with(piece(0, "ab"), piece(3, "d"), piece(5, "f"), piece(7, "h")), 0},
		{"touches the last one", four, 8, "i", false, with(piece(1, "b"), piece(3, "d"), piece(5, "f"), piece(7, "hi")), 0},
		{"closes one gap", four, 4, "e", false, with(piece(1, "b"), piece(3, "def"), piece(7, "h")), 0},
		{"closes all gaps", four, 0, "ABCDEFGHI", false, with(piece(0, "AbCdEfGhI")), 0},
		{"Held already", four, 5, "X", false, four, 0},
		{"no bytes", four, 9, "", false, four, 0},
		{"an end without bytes", four, 9, "", true, state(0, 9, 20, four.Held...), 0},
	})
}

// TestPutRefuses: P8.3, each error, and which comes first.
func TestPutRefuses(t *testing.T) {
	open := state(2, -1, 9, piece(4, "ef"))
	ended := state(2, 8, 9, piece(4, "ef"))
	four := state(0, -1, 9, piece(0, "a"), piece(2, "c"), piece(4, "e"), piece(6, "g"))
	whole := state(0, -1, api.MaxVar)
	none := api.Gather{}
	checkPuts(t, []putCase{
		{"off below 0", open, -1, "abc", false, none, api.ErrRange},
		{"off below 0, no bytes", open, -1, "", false, none, api.ErrRange},
		{"the lowest off", open, math.MinInt, "a", false, none, api.ErrRange},
		{"off below 0, an end ahead of the reach", ended, -3, "abc", true, none, api.ErrRange},
		{"an end above MaxVar", whole, api.MaxVar, "a", false, none, api.ErrRange},
		{"no bytes above MaxVar", whole, api.MaxVar + 1, "", false, none, api.ErrRange},
		{"the highest off", whole, math.MaxInt, "ab", false, none, api.ErrRange},
		{"above MaxVar, behind Final and Window", ended, math.MaxInt, "a", true, none, api.ErrRange},
		{"behind Final", ended, 8, "a", false, none, api.ErrFinal},
		{"half of it behind Final", ended, 7, "ab", false, none, api.ErrFinal},
		{"no bytes behind Final", ended, 9, "", false, none, api.ErrFinal},
		{"behind Final and Window", ended, 9, "a", false, none, api.ErrFinal},
		{"the end behind Final", ended, 8, "a", true, none, api.ErrFinal},
		{"the end ahead of Final", ended, 6, "a", true, none, api.ErrFinal},
		{"the end ahead of Final, no bytes", ended, 7, "", true, none, api.ErrFinal},
		{"the end ahead of Final, behind Window", state(2, math.MaxInt, 9), 9, "a", true, none, api.ErrFinal},
		{"the end ahead of the reach", open, 4, "e", true, none, api.ErrFinal},
		{"the end ahead of the reach, no bytes", open, 5, "", true, none, api.ErrFinal},
		{"the end ahead of Done", state(2, -1, 9), 0, "a", true, none, api.ErrFinal},
		{"behind Window", open, 9, "a", false, none, api.ErrFlow},
		{"half of it behind Window", open, 8, "ab", false, none, api.ErrFlow},
		{"no bytes behind Window", open, 10, "", false, none, api.ErrFlow},
		{"the end behind Window", open, 9, "a", true, none, api.ErrFlow},
		{"the end behind Window, no bytes", open, 10, "", true, none, api.ErrFlow},
		{"behind Window, ahead of Final", state(2, 20, 9), 9, "a", false, none, api.ErrFlow},
		{"the end, at Final, behind Window", state(2, 10, 9), 9, "a", true, none, api.ErrFlow},
		{"up to MaxVar, behind Window", open, api.MaxVar - 1, "a", false, none, api.ErrFlow},
		{"a fifth one, behind Window", four, 8, "ab", false, none, api.ErrFlow},
		{"a fifth one, up to Window", four, 8, "a", false, none, api.ErrFull},
	})
}

// TestState: what Check refuses all others refuse, too, ahead of all else.
func TestState(t *testing.T) {
	none := api.Gather{}
	for _, bad := range badStates() {
		for _, off := range []int{0, 1, -1, math.MinInt, math.MaxInt} {
			for _, fin := range []bool{false, true} {
				if g, e := Put(bad, off, []byte("a"), fin); !same(g, none) || e != api.ErrState {
					t.Errorf("Put(%v, %d) = %v, %d, want nothing, %d", bad, off, g, e, api.ErrState)
				}
			}
		}
		if g, b, all, e := Take(bad); !same(g, none) || len(b) != 0 || all || e != api.ErrState {
			t.Errorf("Take(%v) = %v, %q, %t, %d, want nothing, %d", bad, g, b, all, e, api.ErrState)
		}
		for _, window := range []int{0, 5, api.MaxVar, api.MaxVar + 1, -1} {
			if g, e := Widen(bad, window); !same(g, none) || e != api.ErrState {
				t.Errorf("Widen(%v, %d) = %v, %d, want nothing, %d", bad, window, g, e, api.ErrState)
			}
		}
	}
}

// TestTake: P8.4, what is Held at Done, and no more; whether that was all.
func TestTake(t *testing.T) {
	for _, c := range []struct {
		name string
		g    api.Gather
		want api.Gather
		text string
		all  bool
	}{
		{"nothing", state(0, -1, 9), state(0, -1, 9), "", false},
		{"nothing, and no end at 0", state(0, 4, 9), state(0, 4, 9), "", false},
		{"nothing, and the end at 0", state(0, 0, 9), state(0, 0, 9), "", true},
		{"nothing more", state(5, 5, 9), state(5, 5, 9), "", true},
		{"a gap", state(2, -1, 9, piece(3, "d")), state(2, -1, 9, piece(3, "d")), "", false},
		{"a gap, and the end", state(2, 4, 9, piece(3, "d")), state(2, 4, 9, piece(3, "d")), "", false},
		{"the only one", state(2, -1, 9, piece(2, "cd")), state(4, -1, 9), "cd", false},
		{"the last one", state(2, 4, 9, piece(2, "cd")), state(4, 4, 9), "cd", true},
		{"one ahead of the end", state(2, 5, 9, piece(2, "cd")), state(4, 5, 9), "cd", false},
		{"the first one", state(0, 9, 9, piece(0, "ab"), piece(3, "d"), piece(5, "f")), state(2, 9, 9, piece(3, "d"), piece(5, "f")), "ab", false},
		{"the first one of four", state(0, -1, 9, piece(0, "a"), piece(2, "c"), piece(4, "e"), piece(6, "ghi")), state(1, -1, 9, piece(2, "c"), piece(4, "e"), piece(6, "ghi")), "a", false},
		{"up to the highest place", state(api.MaxVar-1, api.MaxVar, api.MaxVar, piece(api.MaxVar-1, "z")), state(api.MaxVar, api.MaxVar, api.MaxVar), "z", true},
	} {
		got, b, all, e := Take(c.g)
		if !same(got, c.want) || string(b) != c.text || all != c.all || e != api.OK {
			t.Errorf("%s: Take(%v) = %v, %q, %t, %d, want %v, %q, %t, 0", c.name, c.g, got, b, all, e, c.want, c.text, c.all)
		}
	}
}

// TestWiden: P8.5, windows that are greater, and such that are not; all else stays.
func TestWiden(t *testing.T) {
	for _, g := range goodStates() {
		for _, window := range []int{math.MinInt, -1, 0, 1, g.Window - 1, g.Window, g.Window + 1, 300, api.MaxVar - 1, api.MaxVar, api.MaxVar + 1, math.MaxInt} {
			want, wrong := clone(g), api.OK
			if window > g.Window {
				want.Window = window
			}
			if window > api.MaxVar {
				want, wrong = api.Gather{}, api.ErrRange
			}
			if got, e := Widen(g, window); !same(got, want) || e != wrong {
				t.Errorf("Widen(%v, %d) = %v, %d, want %v, %d", g, window, got, e, want, wrong)
			}
		}
	}
}

// model of a gather: which byte stands at which place, whether it was taken or not.
type model struct {
	at            map[int]byte
	done          int
	final, window int
}

// held by a model are the bytes behind done, place by place, in pieces.
func (m *model) held() []api.Piece {
	var l []api.Piece
	for _, place := range slices.Sorted(maps.Keys(m.at)) {
		_, more := m.at[place-1]
		switch {
		case place < m.done:
		case more && place > m.done:
			l[len(l)-1].Data = append(l[len(l)-1].Data, m.at[place])
		default:
			l = append(l, api.Piece{Off: place, Data: []byte{m.at[place]}})
		}
	}
	return l
}

func (m *model) state() api.Gather {
	return api.Gather{Done: m.done, Held: m.held(), Final: m.final, Window: m.window}
}

// put into a model; with an error it stays as it was.
func (m *model) put(off int, data []byte, fin bool) api.Errno {
	stop, top := off+len(data), m.done
	for place := range m.at {
		top = max(top, place+1)
	}
	switch {
	case m.final >= 0 && stop > m.final, fin && m.final >= 0 && stop != m.final, fin && stop < top:
		return api.ErrFinal
	case stop > m.window:
		return api.ErrFlow
	}
	was := maps.Clone(m.at)
	for i, x := range data {
		if _, there := m.at[off+i]; !there {
			m.at[off+i] = x
		}
	}
	if len(m.held()) > 4 {
		m.at = was
		return api.ErrFull
	}
	if fin {
		m.final = stop
	}
	return api.OK
}

// take what a model has.
func (m *model) take() []byte {
	var b []byte
	for x, there := m.at[m.done]; there; x, there = m.at[m.done] {
		b = append(b, x)
		m.done++
	}
	return b
}

// TestModel: P8.1 to P8.5, many pieces, put in any order, with bytes that are never the same, and taken at any time.
func TestModel(t *testing.T) {
	chance := rand.New(rand.NewPCG(8, 88))
	refused := map[api.Errno]int{}
	for range 20000 {
		m := &model{at: map[int]byte{}, final: -1, window: 6 + chance.IntN(18)}
		g, _ := Begin(m.window)
		for step := range 14 {
			off, data, fin := chance.IntN(26), make([]byte, chance.IntN(4)), chance.IntN(20) == 0
			for i := range data {
				data[i] = byte(10*step + i)
			}
			was := clone(g)
			put, e := Put(g, off, data, fin)
			if !same(g, was) {
				t.Fatalf("Put(%v, %d, %v, %t) changes it to %v", was, off, data, fin, g)
			}
			want := m.put(off, data, fin)
			refused[want]++
			if e != want || e != api.OK && !same(put, api.Gather{}) || e == api.OK && !same(put, m.state()) {
				t.Fatalf("Put(%v, %d, %v, %t) = %v, %d, want %v, %d", was, off, data, fin, put, e, m.state(), want)
			}
			if e == api.OK {
				g = put
			}
			if chance.IntN(4) == 0 {
				g = taken(t, m, g)
			}
			if chance.IntN(8) == 0 {
				m.window++
				g, _ = Widen(g, m.window)
			}
			if Check(g) != api.OK || !same(g, m.state()) {
				t.Fatalf("the state is %v, want %v", g, m.state())
			}
		}
	}
	for _, e := range []api.Errno{api.OK, api.ErrFinal, api.ErrFlow, api.ErrFull} {
		if refused[e] < 1000 {
			t.Errorf("only %d pieces were answered by %d", refused[e], e)
		}
	}
}

// taken from both a model and a state, which is answered as it is then.
func taken(t *testing.T, m *model, g api.Gather) api.Gather {
	t.Helper()
	got, b, all, e := Take(g)
	want := m.take()
	if !same(got, m.state()) || !bytes.Equal(b, want) || all != (m.done == m.final) || e != api.OK {
		t.Fatalf("Take(%v) = %v, %v, %t, %d, want %v, %v", g, got, b, all, e, m.state(), want)
	}
	return got
}

// TestAnyOrder: P8.3 and P8.4, a text cut in pieces comes out whole, in whatever order they come.
func TestAnyOrder(t *testing.T) {
	text := "bytes that come in pieces"
	parts := []api.Piece{piece(0, text[:4]), piece(4, text[4:9]), piece(7, text[7:15]), piece(15, text[15:16]), piece(16, text[16:]), piece(2, text[2:20])}
	var order func(left []int, got []int)
	order = func(left, got []int) {
		if len(left) == 0 {
			g, _ := Begin(len(text))
			for _, i := range got {
				var e api.Errno
				if g, e = Put(g, parts[i].Off, parts[i].Data, i == 4); e != api.OK {
					t.Fatalf("%v: Put of part %d = %d", got, i, e)
				}
			}
			if _, b, all, e := Take(g); string(b) != text || !all || e != api.OK {
				t.Errorf("%v: Take = %q, %t, %d, want %q, true, 0", got, b, all, e, text)
			}
		}
		for at, i := range left {
			order(slices.Delete(slices.Clone(left), at, at+1), append(slices.Clone(got), i))
		}
	}
	order([]int{0, 1, 2, 3, 4, 5}, nil)
}

// roomy is the same list of bytes, with spare room behind it.
func roomy(b []byte) []byte {
	return append(make([]byte, 0, len(b)+30), b...)
}

// spoil all that an answer has, its spare room too.
func spoil(g api.Gather, lists ...[]byte) {
	for _, p := range g.Held[:cap(g.Held)] {
		lists = append(lists, p.Data)
	}
	for _, b := range lists {
		b = b[:cap(b)]
		for i := range b {
			b[i] = 255
		}
	}
	clear(g.Held[:cap(g.Held)])
}

// answers are calls that answer a state, or a list, of a state.
func answers() map[string]func(api.Gather) (api.Gather, []byte) {
	data := roomy([]byte("XYZ"))
	l := map[string]func(api.Gather) (api.Gather, []byte){
		"Take":             func(g api.Gather) (api.Gather, []byte) { g, b, _, _ := Take(g); return g, b },
		"Widen":            func(g api.Gather) (api.Gather, []byte) { g, _ = Widen(g, 99); return g, nil },
		"Widen by nothing": func(g api.Gather) (api.Gather, []byte) { g, _ = Widen(g, 0); return g, nil },
		"Put of no bytes":  func(g api.Gather) (api.Gather, []byte) { g, _ = Put(g, 3, nil, false); return g, nil },
	}
	for off := range 12 {
		l["Put at "+string(rune('a'+off))] = func(g api.Gather) (api.Gather, []byte) { g, _ = Put(g, off, data, false); return g, nil }
	}
	return l
}

// TestNewMemory: what is handed in stays as it is, its spare room too; no answer shares memory with it or with another one, nor do two lists of one.
func TestNewMemory(t *testing.T) {
	for name, call := range answers() {
		for _, g := range []api.Gather{
			state(2, -1, 20, piece(2, "cd"), piece(6, "gh"), piece(10, "kl")),
			state(2, 14, 20, piece(3, "d"), piece(9, "jk")),
			state(2, -1, 20),
		} {
			g.Held = append(make([]api.Piece, 0, 8), g.Held...)
			for i, p := range g.Held {
				g.Held[i].Data = roomy(p.Data)
			}
			was := clone(g)
			one, b := call(g)
			kept, keptBytes := clone(one), bytes.Clone(b)
			two, c := call(g)
			spoil(two, c)
			if !same(one, kept) || !bytes.Equal(b, keptBytes) {
				t.Errorf("%s of %v: two answers share memory", name, was)
			}
			spoil(one, b)
			checkApart(t, name, g, call)
			checkUntouched(t, name, g, was)
		}
	}
}

// checkApart tells when lists of one answer share memory.
func checkApart(t *testing.T, name string, g api.Gather, call func(api.Gather) (api.Gather, []byte)) {
	t.Helper()
	want, wantBytes := call(g)
	want, wantBytes = clone(want), bytes.Clone(wantBytes)
	for i := range want.Held {
		one, b := call(g)
		spoil(api.Gather{}, one.Held[i].Data)
		one.Held[i].Data = bytes.Clone(want.Held[i].Data)
		if !same(one, want) || !bytes.Equal(b, wantBytes) {
			t.Errorf("%s of %v: piece %d shares memory with another list", name, g, i)
		}
	}
	one, b := call(g)
	spoil(api.Gather{}, b)
	if !same(one, want) {
		t.Errorf("%s of %v: what is told shares memory with what is held", name, g)
	}
}

// checkUntouched tells when a state, or its spare room, is not what it was.
func checkUntouched(t *testing.T, name string, g, was api.Gather) {
	t.Helper()
	if !same(g, was) {
		t.Errorf("%s of %v: it is %v then", name, was, g)
	}
	for _, p := range g.Held[len(g.Held):cap(g.Held)] {
		if p.Off != 0 || p.Data != nil {
			t.Errorf("%s of %v: its spare room is written to", name, was)
		}
	}
	for _, p := range g.Held {
		room := p.Data[len(p.Data):cap(p.Data)]
		if !bytes.Equal(room, make([]byte, len(room))) {
			t.Errorf("%s of %v: the spare room of a piece is written to", name, was)
		}
	}
}

// TestPutKeepsNoBytes: the bytes that are put stay as they are, and are not kept.
func TestPutKeepsNoBytes(t *testing.T) {
	for _, g := range []api.Gather{state(0, -1, 20), state(0, -1, 20, piece(0, "a")), state(0, -1, 20, piece(6, "g")), state(0, -1, 20, piece(2, "c"))} {
		room := roomy([]byte("BCDEF"))
		data := room[:3]
		one, _ := Put(g, 1, data, false)
		two, _ := Put(g, 1, data, false)
		want := clone(one)
		spoil(two)
		if string(room) != "BCDEF" || !bytes.Equal(room[5:cap(room)], make([]byte, cap(room)-5)) {
			t.Errorf("Put(%v): the bytes are %q then", g, room[:cap(room)])
		}
		clear(room)
		if !same(one, want) {
			t.Errorf("Put(%v): the bytes are kept", g)
		}
	}
}
