package table

import (
	"math"
	"math/rand/v2"
	"slices"
	"strings"
	"testing"

	"spillway/api"
)

// field of a name and a value.
func field(name, value string) api.Field {
	return api.Field{Name: name, Value: value}
}

// rows of fields: of each text the first byte is the name, and the rest the value.
func rows(l ...string) []api.Field {
	var out []api.Field
	for _, s := range l {
		out = append(out, field(s[:1], s[1:]))
	}
	return out
}

// state of a table: its room, how many were put in, and rows.
func state(room, put int, l ...string) api.Table {
	return api.Table{Room: room, Put: put, Rows: rows(l...)}
}

// same tells whether two tables are: a list without elements may be nil or not.
func same(a, b api.Table) bool {
	return a.Room == b.Room && a.Put == b.Put && slices.Equal(a.Rows, b.Rows)
}

// clone of a table.
func clone(t api.Table) api.Table {
	t.Rows = slices.Clone(t.Rows)
	return t
}

// long text of so many bytes.
func long(n int) string { return strings.Repeat("x", n) }

// greatest field that may be: it has 92 bytes in a table.
func greatest() api.Field { return field(long(20), long(40)) }

// goodFields may be, at all their bounds.
func goodFields() []api.Field {
	return []api.Field{
		field("a", ""),
		field("a", "1"),
		field("a", long(40)),
		field(long(20), ""),
		field(long(19), long(39)),
		greatest(),
		// Any byte may stand in a field, and lengths are told in bytes.
		field("\x00", "\x00"),
		field("\xff\xfe", "\xff"),
		field(strings.Repeat("é", 10), strings.Repeat("é", 20)),
		field("A b", "\n"),
	}
}

// badFields may not be.
func badFields() []api.Field {
	return []api.Field{
		{},
		field("", "1"),
		field("", long(40)),
		field("", long(41)),
		field(long(21), ""),
		field(long(21), "1"),
		field("a", long(41)),
		field(long(20), long(41)),
		field(long(21), long(40)),
		field(long(21), long(41)),
		field(long(1000), ""),
		field("a", long(1000)),
		field(strings.Repeat("é", 11), ""),
		field("a", strings.Repeat("é", 21)),
	}
}

// goodTables may be, at all their bounds.
func goodTables() []api.Table {
	out := []api.Table{
		{},
		{Rows: []api.Field{}},
		{Put: 1},
		{Put: api.MaxVar},
		{Room: 1},
		{Room: api.MaxTable},
		{Room: api.MaxTable, Put: api.MaxVar},
		state(33, 1, "a"),
		state(33, 7, "a"),
		state(34, 1, "a1"),
		state(34, api.MaxVar, "a1"),
		state(67, 2, "a1", "b"),
		state(68, 2, "a1", "b2"),
		state(68, 3, "b2", "c3"),
		state(102, 3, "a1", "a1", "a1"),
		state(132, 4, "a", "b", "c", "d"),
		state(136, 9, "a1", "b2", "a3", "b2"),
		state(160, 4, "a1", "b2", "c3", "d4"),
		state(160, 4, "a"+long(28), "b", "c", "d"),
		{Room: 92, Put: 1, Rows: []api.Field{greatest()}},
		{Room: 160, Put: 5, Rows: []api.Field{greatest(), field("a", long(35))}},
	}
	for _, f := range goodFields() {
		out = append(out, api.Table{Room: Size(f), Put: 1, Rows: []api.Field{f}})
	}
	return out
}

// badTables may not be, for one cause each, or for several.
func badTables() []api.Table {
	out := []api.Table{
		// Room.
		{Room: -1},
		{Room: math.MinInt},
		{Room: api.MaxTable + 1},
		{Room: math.MaxInt},
		state(161, 1, "a1"),
		state(-1, 1, "a1"),
		// Put.
		{Put: -1},
		{Put: math.MinInt},
		{Put: api.MaxVar + 1},
		{Put: math.MaxInt},
		state(160, 0, "a1"),
		state(160, -1, "a1"),
		state(160, 1, "a1", "b2"),
		state(160, 3, "a", "b", "c", "d"),
		state(160, api.MaxVar+1, "a1"),
		// Sizes.
		state(0, 1, "a1"),
		state(32, 1, "a"),
		state(33, 1, "a1"),
		state(67, 2, "a1", "b2"),
		state(101, 3, "a1", "b2", "c3"),
		state(131, 4, "a", "b", "c", "d"),
		state(160, 5, "a", "b", "c", "d", "e"),
		state(160, 4, "a"+long(29), "b", "c", "d"),
		{Room: 91, Put: 1, Rows: []api.Field{greatest()}},
		{Room: 160, Put: 2, Rows: []api.Field{greatest(), greatest()}},
		{Room: 160, Put: 2, Rows: []api.Field{greatest(), field("a", long(36))}},
		// All at once.
		{Room: -1, Put: -1, Rows: make([]api.Field, 1)},
		{Room: math.MaxInt, Put: math.MaxInt, Rows: []api.Field{greatest(), greatest()}},
		{Rows: make([]api.Field, 1000)},
		{Room: 160, Put: 1000, Rows: make([]api.Field, 1000)},
	}
	for _, f := range badFields() {
		out = append(out,
			api.Table{Room: 160, Put: 1, Rows: []api.Field{f}},
			api.Table{Room: 160, Put: 9, Rows: []api.Field{field("a", "1"), f}},
			api.Table{Room: 160, Put: 9, Rows: []api.Field{f, field("a", "1")}})
	}
	return out
}

// TestSize: the bytes of name and value, and 32, of fields that may be and of others (P14.1).
func TestSize(t *testing.T) {
	for _, c := range []struct {
		f    api.Field
		want int
	}{
		{api.Field{}, 32},
		{field("a", ""), 33},
		{field("", "1"), 33},
		{field("ab", "c"), 35},
		{field("a", "bc"), 35},
		{field("é", "€"), 37},
		{greatest(), 92},
		{field(long(21), long(41)), 94},
		{field(long(1000), long(2000)), 3032},
	} {
		if n := Size(c.f); n != c.want {
			t.Errorf("Size(%v) = %d, want %d", c.f, n, c.want)
		}
	}
}

// TestCheck: tables that may be, and others (P14.2).
func TestCheck(t *testing.T) {
	for _, x := range goodTables() {
		if e := Check(x); e != api.OK {
			t.Errorf("Check(%v) = %d, want OK", x, e)
		}
	}
	for _, x := range badTables() {
		if e := Check(x); e != api.ErrState {
			t.Errorf("Check(%v) = %d, want ErrState", x, e)
		}
	}
}

// TestInsert: the field stands behind the rows, and no more of the first ones go than must (P14.3).
func TestInsert(t *testing.T) {
	for _, c := range []struct {
		name string
		t    api.Table
		f    api.Field
		want api.Table
	}{
		{"first one", state(34, 0), field("a", "1"), state(34, 1, "a1")},
		{"first one, room to spare", state(160, 0), field("a", "1"), state(160, 1, "a1")},
		{"others are gone", state(34, 5), field("a", "1"), state(34, 6, "a1")},
		{"just room", state(68, 1, "a1"), field("b", "2"), state(68, 2, "a1", "b2")},
		{"one too few", state(67, 1, "a1"), field("b", "2"), state(67, 2, "b2")},
		{"just room for it alone", state(34, 1, "a1"), field("b", "2"), state(34, 2, "b2")},
		{"the first one goes", state(68, 2, "a1", "b2"), field("c", "3"), state(68, 3, "b2", "c3")},
		{"one goes, and leaves room", state(110, 3, "a"+long(9), "b2", "c3"), field("d", "4"), state(110, 4, "b2", "c3", "d4")},
		{"a small one goes, and the next one too", state(107, 3, "a", "b"+long(6), "c3"), field("d", "4567"), state(107, 4, "c3", "d4567")},
		{"a small one goes, and that is enough", state(107, 3, "a", "b"+long(6), "c"), field("d", ""), state(107, 4, "b"+long(6), "c", "d")},
		{"all go", state(102, 3, "a1", "b2", "c3"), field("d", long(40)), state(102, 4, "d"+long(40))},
		{"all but the last one go", state(107, 3, "a1", "b2", "c3"), field("d", long(40)), state(107, 4, "c3", "d"+long(40))},
		{"all go for one of all the room", state(73, 2, "a1", "b2"), field("d", long(40)), state(73, 3, "d"+long(40))},
		{"four, and one more", state(132, 4, "a", "b", "c", "d"), field("e", ""), state(132, 5, "b", "c", "d", "e")},
		{"the same once more", state(102, 1, "a1"), field("a", "1"), state(102, 2, "a1", "a1")},
		{"the same, which goes", state(34, 1, "a1"), field("a", "1"), state(34, 2, "a1")},
		{"the last number", state(160, api.MaxVar-1, "a1"), field("b", "2"), state(160, api.MaxVar, "a1", "b2")},
		{"a row that would not fit goes no further", state(160, 3, "a", "b"+long(40), "c"), field("d", long(39)), state(160, 4, "c", "d"+long(39))},
	} {
		if got, e := Insert(c.t, c.f); !same(got, c.want) || e != api.OK {
			t.Errorf("%s: Insert(%v, %v) = %v, %d, want %v, OK", c.name, c.t, c.f, got, e, c.want)
		}
	}
	for _, f := range goodFields() {
		want := api.Table{Room: Size(f), Put: 1, Rows: []api.Field{f}}
		if got, e := Insert(api.Table{Room: Size(f)}, f); !same(got, want) || e != api.OK {
			t.Errorf("Insert(%v) = %v, %d, want %v, OK", f, got, e, want)
		}
	}
}

// TestInsertRefuses: a field that may not be, one that is too great, and one too many, in this order (P14.3).
func TestInsertRefuses(t *testing.T) {
	tables := []api.Table{{}, state(32, 5), state(160, 2, "a1", "b2"), state(160, api.MaxVar), state(0, api.MaxVar), state(160, api.MaxVar, "a1")}
	for _, x := range tables {
		for _, f := range badFields() {
			notInserted(t, x, f, api.ErrForm)
		}
	}
	for _, f := range goodFields() {
		for _, put := range []int{0, 1, api.MaxVar - 1, api.MaxVar} {
			for _, room := range []int{0, 1, 32, Size(f) - 1} {
				notInserted(t, state(room, put), f, api.ErrSize)
			}
		}
		for _, room := range []int{Size(f), Size(f) + 1, 160} {
			notInserted(t, state(room, api.MaxVar), f, api.ErrFull)
		}
	}
	notInserted(t, state(34, 1, "a1"), field("b", "23"), api.ErrSize)
	notInserted(t, state(68, 2, "a1", "b2"), field("c", long(36)), api.ErrSize)
	notInserted(t, state(68, api.MaxVar, "a1", "b2"), field("c", long(36)), api.ErrSize)
	notInserted(t, state(68, api.MaxVar, "a1", "b2"), field("c", "3"), api.ErrFull)
	notInserted(t, state(68, api.MaxVar, "a1"), field("a", "1"), api.ErrFull)
}

func notInserted(t *testing.T, x api.Table, f api.Field, want api.Errno) {
	t.Helper()
	if got, e := Insert(x, f); !same(got, api.Table{}) || e != want {
		t.Errorf("Insert(%v, %v) = %v, %d, want nothing and %d", x, f, got, e, want)
	}
}

// TestResize: the room is another one, and no more of the first rows go than must; Put stays (P14.4).
func TestResize(t *testing.T) {
	for _, c := range []struct {
		t    api.Table
		room int
		want api.Table
	}{
		{state(0, 0), 0, state(0, 0)},
		{state(0, 0), 160, state(160, 0)},
		{state(160, 0), 0, state(0, 0)},
		{state(0, 5), 34, state(34, 5)},
		{state(0, api.MaxVar), 1, state(1, api.MaxVar)},
		{state(34, 1, "a1"), 34, state(34, 1, "a1")},
		{state(34, 1, "a1"), 160, state(160, 1, "a1")},
		{state(34, 1, "a1"), 33, state(33, 1)},
		{state(34, 1, "a1"), 0, state(0, 1)},
		{state(160, 3, "a1", "b2", "c3"), 102, state(102, 3, "a1", "b2", "c3")},
		{state(160, 3, "a1", "b2", "c3"), 101, state(101, 3, "b2", "c3")},
		{state(160, 3, "a1", "b2", "c3"), 68, state(68, 3, "b2", "c3")},
		{state(160, 3, "a1", "b2", "c3"), 67, state(67, 3, "c3")},
		{state(160, 3, "a1", "b2", "c3"), 34, state(34, 3, "c3")},
		{state(160, 3, "a1", "b2", "c3"), 33, state(33, 3)},
		{state(160, 3, "a1", "b2", "c3"), 0, state(0, 3)},
		{state(160, 3, "a1", "b2", "c3"), 160, state(160, 3, "a1", "b2", "c3")},
		// The last row alone is too great: none ahead of it stays in its place.
		{state(160, 9, "a", "b", "c"+long(40)), 72, state(72, 9)},
		{state(160, 9, "a", "b"+long(40), "c"), 72, state(72, 9, "c")},
		{state(160, 9, "a"+long(40), "b", "c"), 72, state(72, 9, "b", "c")},
		{state(160, api.MaxVar, "a", "b"), 65, state(65, api.MaxVar, "b")},
	} {
		if got, e := Resize(c.t, c.room); !same(got, c.want) || e != api.OK {
			t.Errorf("Resize(%v, %d) = %v, %d, want %v, OK", c.t, c.room, got, e, c.want)
		}
	}
}

// TestResizeRefuses: a room that is not from 0 to MaxTable (P14.4).
func TestResizeRefuses(t *testing.T) {
	for _, x := range goodTables() {
		for _, room := range []int{math.MinInt, -161, -1, 161, 162, api.MaxVar, math.MaxInt} {
			if got, e := Resize(x, room); !same(got, api.Table{}) || e != api.ErrRange {
				t.Errorf("Resize(%v, %d) = %v, %d, want nothing and ErrRange", x, room, got, e)
			}
		}
	}
}

// TestGet: what was put in as each number, what was not put in yet, and what is gone (P14.5).
func TestGet(t *testing.T) {
	const most = api.MaxVar
	for _, c := range []struct {
		t    api.Table
		n    int
		want api.Field
		e    api.Errno
	}{
		{state(0, 0), 0, api.Field{}, api.ErrNone},
		{state(0, 0), -1, api.Field{}, api.ErrNone},
		{state(0, 1), 0, api.Field{}, api.ErrOld},
		{state(0, 1), 1, api.Field{}, api.ErrNone},
		{state(0, most), 0, api.Field{}, api.ErrOld},
		{state(0, most), most - 1, api.Field{}, api.ErrOld},
		{state(0, most), most, api.Field{}, api.ErrNone},
		{state(0, most), math.MaxInt, api.Field{}, api.ErrNone},
		{state(34, 1, "a1"), 0, field("a", "1"), api.OK},
		{state(34, 1, "a1"), 1, api.Field{}, api.ErrNone},
		{state(102, 3, "a1", "b2", "c3"), 0, field("a", "1"), api.OK},
		{state(102, 3, "a1", "b2", "c3"), 1, field("b", "2"), api.OK},
		{state(102, 3, "a1", "b2", "c3"), 2, field("c", "3"), api.OK},
		{state(102, 3, "a1", "b2", "c3"), 3, api.Field{}, api.ErrNone},
		{state(102, 7, "a1", "b2", "c3"), -1, api.Field{}, api.ErrNone},
		{state(102, 7, "a1", "b2", "c3"), 0, api.Field{}, api.ErrOld},
		{state(102, 7, "a1", "b2", "c3"), 3, api.Field{}, api.ErrOld},
		{state(102, 7, "a1", "b2", "c3"), 4, field("a", "1"), api.OK},
		{state(102, 7, "a1", "b2", "c3"), 6, field("c", "3"), api.OK},
		{state(102, 7, "a1", "b2", "c3"), 7, api.Field{}, api.ErrNone},
		{state(102, most, "a1", "b2"), most - 3, api.Field{}, api.ErrOld},
		{state(102, most, "a1", "b2"), most - 2, field("a", "1"), api.OK},
		{state(102, most, "a1", "b2"), most - 1, field("b", "2"), api.OK},
		{state(102, most, "a1", "b2"), most, api.Field{}, api.ErrNone},
		{state(102, most, "a1", "b2"), math.MinInt, api.Field{}, api.ErrNone},
	} {
		if f, e := Get(c.t, c.n); f != c.want || e != c.e {
			t.Errorf("Get(%v, %d) = %v, %d, want %v, %d", c.t, c.n, f, e, c.want, c.e)
		}
	}
}

// TestFind: the last row that is the same, else the last one of that name (P14.6).
func TestFind(t *testing.T) {
	for _, c := range []struct {
		t    api.Table
		f    api.Field
		n    int
		same bool
		e    api.Errno
	}{
		{state(102, 3, "a1", "b2", "c3"), field("a", "1"), 0, true, api.OK},
		{state(102, 3, "a1", "b2", "c3"), field("c", "3"), 2, true, api.OK},
		{state(102, 3, "a1", "b2", "c3"), field("a", "9"), 0, false, api.OK},
		{state(102, 3, "a1", "b2", "c3"), field("c", ""), 2, false, api.OK},
		{state(102, 3, "a1", "b2", "c3"), field("d", "1"), 0, false, api.ErrNone},
		{state(102, 3, "a1", "b2", "c3"), field("A", "1"), 0, false, api.ErrNone},
		{state(102, 3, "a1", "b2", "c3"), field("a1", ""), 0, false, api.ErrNone},
		{state(102, 9, "a1", "b2", "c3"), field("a", "1"), 6, true, api.OK},
		{state(102, 9, "a1", "b2", "c3"), field("b", "1"), 7, false, api.OK},
		// The last one of several.
		{state(102, 3, "a1", "a1", "a1"), field("a", "1"), 2, true, api.OK},
		{state(102, 3, "a1", "a1", "b1"), field("a", "1"), 1, true, api.OK},
		{state(102, 3, "a1", "a2", "b1"), field("a", "3"), 1, false, api.OK},
		{state(102, 8, "a1", "a2", "a3"), field("a", "4"), 7, false, api.OK},
		// The same one goes ahead of a later one that has but the name.
		{state(102, 3, "a1", "a2", "a3"), field("a", "1"), 0, true, api.OK},
		{state(136, 9, "a1", "a2", "a1", "a3"), field("a", "1"), 7, true, api.OK},
		{state(136, 9, "a", "a2", "b", "a3"), field("a", ""), 5, true, api.OK},
		// What is gone is not found.
		{state(102, 9), field("a", "1"), 0, false, api.ErrNone},
		{api.Table{}, field("a", "1"), 0, false, api.ErrNone},
		{state(160, api.MaxVar, "a1", "b2"), field("b", "2"), api.MaxVar - 1, true, api.OK},
		{state(160, api.MaxVar, "a1", "b2"), field("a", "2"), api.MaxVar - 2, false, api.OK},
		// A field that may not be is not refused: no row is the same, but one may have its name.
		{state(102, 3, "a1", "b2", "c3"), api.Field{}, 0, false, api.ErrNone},
		{state(102, 3, "a1", "b2", "c3"), field("", "1"), 0, false, api.ErrNone},
		{state(102, 3, "a1", "b2", "c3"), field(long(21), "1"), 0, false, api.ErrNone},
		{state(102, 3, "a1", "b2", "c3"), field("b", long(41)), 1, false, api.OK},
	} {
		if n, ok, e := Find(c.t, c.f); n != c.n || ok != c.same || e != c.e {
			t.Errorf("Find(%v, %v) = %d, %t, %d, want %d, %t, %d", c.t, c.f, n, ok, e, c.n, c.same, c.e)
		}
	}
}

// TestState: what Check refuses is refused by all, ahead of all (P14.3 to P14.6).
func TestState(t *testing.T) {
	for _, x := range badTables() {
		for _, f := range append(append(goodFields(), badFields()...), x.Rows...) {
			notInserted(t, x, f, api.ErrState)
			if n, ok, e := Find(x, f); n != 0 || ok || e != api.ErrState {
				t.Errorf("Find(%v, %v) = %d, %t, %d, want nothing and ErrState", x, f, n, ok, e)
			}
		}
		for _, n := range []int{math.MinInt, -1, 0, 1, 34, 160, 161, api.MaxVar, math.MaxInt} {
			if got, e := Resize(x, n); !same(got, api.Table{}) || e != api.ErrState {
				t.Errorf("Resize(%v, %d) = %v, %d, want nothing and ErrState", x, n, got, e)
			}
			if f, e := Get(x, n); f != (api.Field{}) || e != api.ErrState {
				t.Errorf("Get(%v, %d) = %v, %d, want nothing and ErrState", x, n, f, e)
			}
		}
	}
}

// model of a table: all that was ever put in, and how many of the first ones are gone.
type model struct {
	room int
	all  []api.Field
	gone int
}

func (m *model) table() api.Table {
	return api.Table{Room: m.room, Put: len(m.all), Rows: m.all[m.gone:]}
}

// shrink till all that is left is within the room.
func (m *model) shrink() {
	for {
		sum := 0
		for _, f := range m.all[m.gone:] {
			sum += 32 + len(f.Name+f.Value)
		}
		if sum <= m.room {
			return
		}
		m.gone++
	}
}

func (m *model) insert(f api.Field) api.Errno {
	switch {
	case f.Name == "" || len(f.Name) > 20 || len(f.Value) > 40:
		return api.ErrForm
	case 32+len(f.Name+f.Value) > m.room:
		return api.ErrSize
	}
	m.all = append(m.all, f)
	m.shrink()
	return api.OK
}

func (m *model) resize(room int) api.Errno {
	if room < 0 || room > 160 {
		return api.ErrRange
	}
	m.room = room
	m.shrink()
	return api.OK
}

func (m *model) get(n int) (api.Field, api.Errno) {
	switch {
	case n < 0 || n >= len(m.all):
		return api.Field{}, api.ErrNone
	case n < m.gone:
		return api.Field{}, api.ErrOld
	}
	return m.all[n], api.OK
}

func (m *model) find(f api.Field) (int, bool, api.Errno) {
	alike, named := -1, -1
	for n := m.gone; n < len(m.all); n++ {
		if m.all[n].Name == f.Name {
			named = n
			if m.all[n].Value == f.Value {
				alike = n
			}
		}
	}
	switch {
	case alike >= 0:
		return alike, true, api.OK
	case named >= 0:
		return named, false, api.OK
	}
	return 0, false, api.ErrNone
}

// some field by chance: a few names and values, of any length.
func some(chance *rand.Rand) api.Field {
	f := field(string(rune('a'+chance.IntN(3))), string(rune('1'+chance.IntN(2))))
	switch chance.IntN(8) {
	case 0:
		f.Name = strings.Repeat(f.Name, chance.IntN(23))
	case 1:
		f.Value = strings.Repeat(f.Value, chance.IntN(44))
	case 2:
		f.Name, f.Value = strings.Repeat(f.Name, 20), strings.Repeat(f.Value, 40)
	}
	return f
}

// TestModel: many steps by chance, each beside what a table that forgets nothing would tell (P14.2 to P14.6).
func TestModel(t *testing.T) {
	chance := rand.New(rand.NewPCG(14, 1))
	seen := map[api.Errno]int{}
	for range 3000 {
		m, x := &model{room: 160}, api.Table{Room: 160}
		for range 40 {
			x = move(t, chance, seen, m, x)
		}
	}
	for _, e := range []api.Errno{api.OK, api.ErrSize, api.ErrForm, api.ErrRange, api.ErrNone, api.ErrOld} {
		if seen[e] < 1000 {
			t.Errorf("error %d: only %d times", e, seen[e])
		}
	}
}

// move a model and a table one step on, by chance.
func move(t *testing.T, chance *rand.Rand, seen map[api.Errno]int, m *model, x api.Table) api.Table {
	t.Helper()
	was, got, f, n := clone(x), x, some(chance), chance.IntN(len(m.all)+3)-1
	var e, want api.Errno
	switch chance.IntN(5) {
	case 0, 1:
		got, e = Insert(x, f)
		want = m.insert(f)
	case 2:
		room := chance.IntN(6)*34 - 1 + chance.IntN(3)
		got, e = Resize(x, room)
		want = m.resize(room)
	case 3:
		var wantField api.Field
		wantField, want = m.get(n)
		f, e = Get(x, n)
		if f != wantField {
			t.Fatalf("Get(%v, %d) = %v, want %v", was, n, f, wantField)
		}
	case 4:
		var wantNumber int
		var alike, wantAlike bool
		wantNumber, wantAlike, want = m.find(f)
		n, alike, e = Find(x, f)
		if n != wantNumber || alike != wantAlike {
			t.Fatalf("Find(%v, %v) = %d, %t, want %d, %t", was, f, n, alike, wantNumber, wantAlike)
		}
	}
	seen[e]++
	switch {
	case !same(x, was):
		t.Fatalf("the table %v was changed to %v", was, x)
	case e != want:
		t.Fatalf("a step from %v (%v, %d) = %v, %d, want %d", was, f, n, got, e, want)
	case e != api.OK:
		return x
	case !same(got, m.table()) || Check(got) != api.OK:
		t.Fatalf("a step from %v (%v, %d) = %v, want %v", was, f, n, got, m.table())
	}
	return got
}

// roomy is a table with spare room behind its rows that is filled, too.
func roomy(x api.Table) api.Table {
	l := append(make([]api.Field, 0, len(x.Rows)+5), x.Rows...)
	spare := l[len(l):cap(l)]
	for i := range spare {
		spare[i] = field("spare", "room")
	}
	x.Rows = l
	return x
}

// wide is a table with all spare room told, too.
func wide(x api.Table) api.Table {
	x.Rows = x.Rows[:cap(x.Rows)]
	return x
}

// TestNewMemory: what is handed in stays as it is, its spare room too; what is answered shares nothing with it, nor with another answer (P14.3, P14.4).
func TestNewMemory(t *testing.T) {
	calls := map[string]func(api.Table) (api.Table, api.Errno){
		"Insert":         func(x api.Table) (api.Table, api.Errno) { return Insert(x, field("n", "")) },
		"Insert a great": func(x api.Table) (api.Table, api.Errno) { return Insert(x, greatest()) },
		"Resize to none": func(x api.Table) (api.Table, api.Errno) { return Resize(x, 0) },
		"Resize to less": func(x api.Table) (api.Table, api.Errno) { return Resize(x, x.Room/2) },
		"Resize to all":  func(x api.Table) (api.Table, api.Errno) { return Resize(x, 160) },
		"Resize to same": func(x api.Table) (api.Table, api.Errno) { return Resize(x, x.Room) },
	}
	for name, call := range calls {
		for _, x := range goodTables() {
			x = roomy(x)
			was := clone(wide(x))
			got, e := call(x)
			if !same(wide(x), was) {
				t.Errorf("%s of %v: what is handed in was changed to %v", name, was, wide(x))
			}
			want := clone(got)
			again, _ := call(x)
			for i := range wide(got).Rows {
				wide(got).Rows[i] = field("spoilt", "")
			}
			if !same(wide(x), was) {
				t.Errorf("%s of %v: the answer shares memory with what is handed in", name, was)
			}
			if e2 := Check(again); !same(again, want) || e == api.OK && e2 != api.OK {
				t.Errorf("%s of %v: once more = %v, want %v", name, was, again, want)
			}
			for i := range wide(x).Rows {
				wide(x).Rows[i] = field("spoilt", "")
			}
			if !same(again, want) {
				t.Errorf("%s of %v: what is handed in is kept", name, was)
			}
		}
	}
}
