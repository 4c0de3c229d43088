package request

import (
	"bytes"
	"math"
	"math/rand/v2"
	"slices"
	"strings"
	"testing"

	"spillway/api"
	"spillway/fields"
	"spillway/table"
	"spillway/varint"
)

// list of fields, each a name, =, and a value.
func list(l ...string) []api.Field {
	var out []api.Field
	for _, s := range l {
		name, value, _ := strings.Cut(s, "=")
		out = append(out, api.Field{Name: name, Value: value})
	}
	return out
}

// with the two fields that must be there, ahead of others.
func with(l ...string) []api.Field {
	return append(list(":method=GET", ":path=/"), list(l...)...)
}

// state of a table: its room, how many were put in, and rows.
func state(room, put int, l ...string) api.Table {
	return api.Table{Room: room, Put: put, Rows: list(l...)}
}

// sameTable tells whether two tables are: a list without elements may be nil or not.
func sameTable(a, b api.Table) bool {
	return a.Room == b.Room && a.Put == b.Put && slices.Equal(a.Rows, b.Rows)
}

// same tells whether two readers are.
func same(a, b api.Reader) bool {
	return bytes.Equal(a.Held, b.Held) && slices.Equal(a.Fields, b.Fields) && a.Begun == b.Begun && bytes.Equal(a.Body, b.Body) && a.Ended == b.Ended
}

// cloneTable is one in new memory.
func cloneTable(t api.Table) api.Table {
	t.Rows = slices.Clone(t.Rows)
	return t
}

// clone of a reader.
func clone(r api.Reader) api.Reader {
	r.Held, r.Fields, r.Body = bytes.Clone(r.Held), slices.Clone(r.Fields), bytes.Clone(r.Body)
	return r
}

// long text of so many bytes.
func long(n int) string { return strings.Repeat("x", n) }

// join bytes: numbers are bytes, and texts are theirs.
func join(l ...any) []byte {
	var b []byte
	for _, x := range l {
		switch y := x.(type) {
		case int:
			b = append(b, byte(y))
		case string:
			b = append(b, y...)
		case []byte:
			b = append(b, y...)
		}
	}
	return b
}

// framed bytes, of a kind.
func framed(kind int, data ...any) []byte {
	b, _ := varint.Encode(kind)
	all := join(data...)
	length, _ := varint.Encode(len(all))
	return join(b, length, all)
}

// start of a request: GET of /.
func start() []byte { return join(1, 3, 0, 193, 192) }

// badTables may not be.
func badTables() []api.Table {
	return []api.Table{
		{Room: -1},
		{Room: api.MaxTable + 1},
		{Room: math.MaxInt, Put: math.MinInt},
		{Put: -1},
		{Put: api.MaxVar + 1},
		state(160, 0, "a=1"),
		state(33, 1, "a=1"),
		state(160, 1, "=1"),
		state(160, 5, long(21)+"="),
		{Room: 160, Put: 1000, Rows: make([]api.Field, 1000)},
	}
}

// checked asks Check of fields, and that they stay as they are.
func checked(t *testing.T, l []api.Field, want api.Errno) {
	t.Helper()
	kept := slices.Clone(l)
	if e := Check(l); e != want {
		t.Errorf("Check(%q) = %d, want %d", l, e, want)
	}
	if !slices.Equal(l, kept) {
		t.Errorf("Check(%q) changed it to %q", kept, l)
	}
}

// TestCheckGood: P16.1, fields of requests.
func TestCheckGood(t *testing.T) {
	for _, l := range [][]api.Field{
		list(":method=GET", ":path=/"),
		list(":path=/", ":method=GET"),
		list(":path=", ":method="),
		list(":authority=here", ":method=GET", ":path=/"),
		list(":method=GET", ":authority=here", ":path=/"),
		list(":path=/", ":method=GET", ":authority=here"),
		with("a=1"),
		with("a=1", "a=2", "a=1"),
		with(":authority=", "method=GET", "path=/", "authority=here", "method=GET", "path=/"),
		with("a=1", "b=2", "c=3", "d=4", "e=5", "f=6"),
		with("!#$%&'*+-.^_`|~=1", "0123456789=1", "{}[]()<>=", "a:=", "a:b=", "a:method="),
		with(long(20)+"="+long(40), "status=200", "a=A", "b=\x00\x7f\x80\xff", "c=é", "d=:path"),
	} {
		checked(t, l, api.OK)
	}
}

// TestCheckMethodPath: P16.1, what must be there, what may be there once, and what may not.
func TestCheckMethodPath(t *testing.T) {
	for _, l := range [][]api.Field{
		nil,
		{},
		list("a=1"),
		list(":method=GET"),
		list(":path=/"),
		list(":authority=here"),
		list(":method=GET", ":authority=here"),
		list(":path=/", ":authority=here"),
		list(":method=GET", "path=/"),
		list("method=GET", ":path=/"),
		list(":method=GET", ":method=GET"),
		list(":path=/", ":path=/"),
		with(":method=GET"),
		with(":method=POST"),
		with(":path=/"),
		with(":path=/x"),
		with(":authority=", ":authority="),
		with(":authority=a", ":authority=b"),
		with(":authority=a", ":authority=b", ":authority=c"),
		with(":status=200"),
		with(":authority=", ":status=404"),
		with(":="),
		with("::="),
		with(":metho=GET"),
		with(":methods=GET"),
		with("::path=/"),
		with(":path:=/"),
		with(":a="),
		list(":status=200", ":method=GET", ":path=/"),
		list(":method=GET", ":status=200", ":path=/"),
		list(":method=GET", ":Path=/"),
		list(":METHOD=GET", ":path=/"),
		with(":Path=/"),
	} {
		checked(t, l, api.ErrForm)
	}
}

// TestCheckOrder: P16.1, a field of any other Name stands at each place, and those with a colon behind it or ahead of it.
func TestCheckOrder(t *testing.T) {
	own := list(":method=GET", ":path=/", ":authority=here")
	for i := range len(own) + 1 {
		want := api.ErrForm
		if i == len(own) {
			want = api.OK
		}
		checked(t, slices.Insert(slices.Clone(own), i, list("a=1")...), want)
		checked(t, slices.Insert(slices.Clone(own), i, list("a=1", "b=2", "c=3")...), want)
	}
	checked(t, with("a=1", ":authority=here"), api.ErrForm)
	checked(t, with("a=1", ":authority=here", "b=2"), api.ErrForm)
	checked(t, with("a=1", ":status=200"), api.ErrForm)
	checked(t, with("a=1", ":="), api.ErrForm)
	checked(t, list("a=1", ":method=GET", "b=1", ":path=/"), api.ErrForm)
}

// TestCheckBytes: P16.1, every byte at the first, a middle and the last place of a Name, and in a Value.
func TestCheckBytes(t *testing.T) {
	for c := range 256 {
		x := string([]byte{byte(c)})
		inName := c >= 33 && c <= 126 && !(c >= 'A' && c <= 'Z')
		for _, name := range []string{x, x + "ab", "a" + x + "b", "ab" + x, long(19) + x} {
			want := api.ErrForm
			if inName && name[0] != ':' {
				want = api.OK
			}
			f := api.Field{Name: name, Value: "1"}
			checked(t, append(with(), f), want)
			checked(t, append(with("a=1"), f, list("b=1")[0]), want)
		}
		checked(t, append(with(), api.Field{Name: "a", Value: x}), api.OK)
		checked(t, []api.Field{{Name: ":method", Value: x}, {Name: ":path", Value: x}}, api.OK)
	}
}

// TestCheckFields: P16.1, what fields' Check refuses goes first.
func TestCheckFields(t *testing.T) {
	six := []string{"a=1", "b=1", "c=1", "d=1", "e=1", "f=1"}
	checked(t, with(six...), api.OK)
	checked(t, with(append(six, "g=1")...), api.ErrSize)
	checked(t, make([]api.Field, 8), api.ErrForm)
	checked(t, make([]api.Field, 9), api.ErrSize)
	checked(t, slices.Repeat(list("A=1"), 9), api.ErrSize)
	checked(t, slices.Repeat(list("A=1"), 1000), api.ErrSize)
	checked(t, list("a=1", "b=1", "c=1", "d=1", "e=1", "f=1", "g=1", ":method=GET", ":path=/"), api.ErrSize)
	for _, f := range []api.Field{{}, {Value: "1"}, {Name: long(21)}, {Name: "a", Value: long(41)}, {Name: ":path", Value: long(41)}} {
		checked(t, append(with(), f), api.ErrForm)
		checked(t, append(slices.Repeat(list("a=1"), 8), f), api.ErrSize)
	}
	checked(t, list(":method="+long(40), ":path="+long(40)), api.OK)
	checked(t, list(":method="+long(41), ":path=/"), api.ErrForm)
	checked(t, list(":method=GET", ":path="+long(41)), api.ErrForm)
}

// modelCheck is Check, told anew (P16.1).
func modelCheck(l []api.Field) api.Errno {
	if e := fields.Check(l); e != api.OK {
		return e
	}
	for i, f := range l {
		for _, c := range f.Name {
			if c < 33 || c > 126 || c >= 'A' && c <= 'Z' {
				return api.ErrForm
			}
		}
		if f.Name[0] != ':' {
			continue
		}
		if i > 0 && l[i-1].Name[0] != ':' || !strings.Contains(" :method :path :authority ", " "+f.Name+" ") {
			return api.ErrForm
		}
		for _, g := range l[:i] {
			if f.Name == g.Name {
				return api.ErrForm
			}
		}
	}
	for _, name := range []string{":method", ":path"} {
		if !slices.ContainsFunc(l, func(f api.Field) bool { return f.Name == name }) {
			return api.ErrForm
		}
	}
	return api.OK
}

// TestCheckAll: P16.1, all lists of up to six fields of some Names, held against a model.
func TestCheckAll(t *testing.T) {
	names := list(":method=GET", ":path=/", ":authority=", "a=1", ":status=200", "B=2")
	good := 0
	var try func(l []api.Field)
	try = func(l []api.Field) {
		want := modelCheck(l)
		if want == api.OK {
			good++
		}
		checked(t, l, want)
		if len(l) < 6 {
			for _, f := range names {
				try(append(slices.Clone(l), f))
			}
		}
	}
	try(nil)
	// Two own ones in 2 orders and up to four others, three in 6 orders and up to three others.
	if want := 2*5 + 6*4; good != want {
		t.Errorf("%d lists are good, want %d", good, want)
	}
}

// writing: what Write is given, and what it is to answer.
type writing struct {
	t     api.Table
	r     api.Request
	ahead bool
	then  api.Table
	told  []byte
	b     []byte
}

func (c writing) try(t *testing.T) {
	t.Helper()
	then, told, b, e := Write(c.t, c.r, c.ahead)
	if !sameTable(then, c.then) || !bytes.Equal(told, c.told) || !bytes.Equal(b, c.b) || e != api.OK {
		t.Errorf("Write(%v, %q, %v) = %v, %v, %v, %d, want %v, %v, %v, OK", c.t, c.r, c.ahead, then, told, b, e, c.then, c.told, c.b)
	}
}

// unwritten asks for an error, and nothing beside it.
func unwritten(t *testing.T, x api.Table, r api.Request, want api.Errno) {
	t.Helper()
	for _, ahead := range []bool{false, true} {
		then, told, b, e := Write(x, r, ahead)
		if e != want || !sameTable(then, api.Table{}) || len(told) > 0 || len(b) > 0 {
			t.Errorf("Write(%v, %q, %v) = %v, %v, %v, %d, want nothing and %d", x, r, ahead, then, told, b, e, want)
		}
	}
}

// TestWrite: P16.2, sections and bodies, and what is told ahead.
func TestWrite(t *testing.T) {
	for _, c := range []writing{
		{r: api.Request{Fields: with()}, b: join(1, 3, 0, 193, 192)},
		{r: api.Request{Fields: list(":path=/", ":method=GET")}, b: join(1, 3, 0, 192, 193)},
		{r: api.Request{Fields: with(), Body: []byte{}}, b: join(1, 3, 0, 193, 192)},
		{r: api.Request{Fields: with(), Body: []byte{0}}, b: join(1, 3, 0, 193, 192, 0, 1, 0)},
		{r: api.Request{Fields: with(), Body: []byte("body")}, b: join(1, 3, 0, 193, 192, 0, 4, "body")},
		{r: api.Request{Fields: with("a=1"), Body: []byte("b")}, b: join(1, 7, 0, 193, 192, 33, "a", 1, "1", 0, 1, "b")},
	} {
		c.t, c.then = state(0, 7), state(0, 7)
		c.try(t)
		c.ahead = true
		c.try(t)
	}
	told := api.Request{Fields: with("a=1", "b=2"), Body: []byte("x")}
	writing{state(160, 3), told, true, state(160, 5, "a=1", "b=2"), join(65, "a", 1, "1", 65, "b", 1, "2"), join(1, 5, 5, 193, 192, 129, 128, 0, 1, "x")}.try(t)
	writing{state(160, 3), told, false, state(160, 3), nil, join(1, 11, 0, 193, 192, 33, "a", 1, "1", 33, "b", 1, "2", 0, 1, "x")}.try(t)
	writing{state(160, 4, "b=2"), told, false, state(160, 4, "b=2"), nil, join(1, 8, 4, 193, 192, 33, "a", 1, "1", 128, 0, 1, "x")}.try(t)
}

// TestWriteLengths: P16.2, lengths in one byte, and in two.
func TestWriteLengths(t *testing.T) {
	for _, c := range []struct {
		first, second int
		head          []byte
	}{
		{40, 13, join(1, 62)},
		{40, 14, join(1, 63)},
		{40, 15, join(1, 64, 64)},
		{40, 16, join(1, 64, 65)},
	} {
		l := with("a="+long(c.first), "b="+long(c.second))
		want := join(c.head, 0, 193, 192, 33, "a", c.first, long(c.first), 33, "b", c.second, long(c.second))
		writing{t: state(9, 9), r: api.Request{Fields: l}, then: state(9, 9), b: want}.try(t)
	}
	for _, c := range []struct {
		n    int
		head []byte
	}{
		{1, join(0, 1)},
		{62, join(0, 62)},
		{63, join(0, 63)},
		{64, join(0, 64, 64)},
		{199, join(0, 64, 199)},
		{200, join(0, 64, 200)},
	} {
		r := api.Request{Fields: with(), Body: []byte(long(c.n))}
		writing{r: r, b: join(start(), c.head, long(c.n))}.try(t)
	}
}

// TestWriteGreatest: P16.2, the longest fields and body are written, though the frame is longer than one that is read.
func TestWriteGreatest(t *testing.T) {
	l := list(":method="+long(40), ":path="+long(40))
	section := join(0, 65, 40, long(40), 64, 40, long(40))
	for i := range 6 {
		name := long(19) + string(rune('a'+i))
		l = append(l, api.Field{Name: name, Value: long(40)})
		section = join(section, 39, 13, name, 40, long(40))
	}
	r := api.Request{Fields: l, Body: []byte(long(200))}
	writing{r: r, b: join(1, 64+len(section)>>8, len(section), section, 0, 64, 200, r.Body)}.try(t)
}

// TestWriteRefuses: P16.2, errors one by one, and the first of several.
func TestWriteRefuses(t *testing.T) {
	bodies := [][]byte{nil, []byte("b"), []byte(long(200)), []byte(long(201)), []byte(long(100000))}
	tables := append(badTables(), api.Table{}, state(160, 5, "a=1"))
	for _, body := range bodies {
		for _, x := range tables {
			for _, l := range [][]api.Field{nil, list("a=1"), list(":path=/"), with("A=1"), with("=1"), with(":path=/"), list("a=1", ":path=/", ":method=GET")} {
				unwritten(t, x, api.Request{Fields: l, Body: body}, api.ErrForm)
			}
			unwritten(t, x, api.Request{Fields: slices.Repeat(with(), 5), Body: body}, api.ErrSize)
			unwritten(t, x, api.Request{Fields: make([]api.Field, 9), Body: body}, api.ErrSize)
		}
	}
	for _, body := range bodies[3:] {
		for _, x := range tables {
			unwritten(t, x, api.Request{Fields: with("a=1"), Body: body}, api.ErrSize)
		}
	}
	for _, body := range bodies[:3] {
		for _, x := range badTables() {
			unwritten(t, x, api.Request{Fields: with("a=1"), Body: body}, api.ErrState)
		}
	}
}

// fed asks Feed for a reader and an error (OK, or ErrWait), and that nothing handed in is changed.
func fed(t *testing.T, r api.Reader, x api.Table, b []byte, fin bool, want api.Reader, e api.Errno) {
	t.Helper()
	keptReader, keptTable, keptBytes := clone(r), cloneTable(x), bytes.Clone(b)
	got, got2 := Feed(r, x, b, fin)
	if !same(got, want) || got2 != e {
		t.Errorf("Feed(%v, %v, %v, %v) = %v, %d, want %v, %d", r, x, b, fin, got, got2, want, e)
	}
	if !same(r, keptReader) || !sameTable(x, keptTable) || !bytes.Equal(b, keptBytes) {
		t.Errorf("Feed(%v, %v, %v, %v) changed what was handed in: %v, %v, %v", keptReader, keptTable, keptBytes, fin, r, x, b)
	}
}

// unfed asks Feed for an error, and nothing beside it.
func unfed(t *testing.T, r api.Reader, x api.Table, b []byte, fin bool, e api.Errno) {
	t.Helper()
	fed(t, r, x, b, fin, api.Reader{}, e)
}

// begun reader, with a body.
func begun(body string) api.Reader {
	return api.Reader{Fields: with(), Begun: true, Body: []byte(body)}
}

// holding reader: the same, with bytes that are held.
func holding(r api.Reader, b ...any) api.Reader {
	r.Held = join(b...)
	return r
}

// ended reader: the same.
func ended(r api.Reader) api.Reader {
	r.Ended = true
	return r
}

// TestFeed: P16.3, frames of all kinds, whole and not, the last ones and not.
func TestFeed(t *testing.T) {
	none := api.Reader{}
	for _, c := range []struct {
		r    api.Reader
		b    []byte
		want api.Reader
	}{
		{none, start(), begun("")},
		{none, join(start(), framed(0, "body")), begun("body")},
		{none, join(start(), framed(0, "bo"), framed(0, "dy"), framed(0, "!")), begun("body!")},
		{none, join(start(), framed(0)), begun("")},
		{none, join(start(), framed(0), framed(0, "x"), framed(0)), begun("x")},
		{begun("a"), nil, begun("a")},
		{begun("a"), framed(0, "b"), begun("ab")},
		{begun("a"), framed(0, "\x00\x01\xff"), begun("a\x00\x01\xff")},
		// Other kinds are left out, wherever they stand.
		{none, join(framed(5, "x"), start(), framed(2), framed(0, "body"), framed(33, long(400))), begun("body")},
		{none, join(framed(5), framed(63, start()), framed(64, start()), framed(api.MaxVar, 1), start()), begun("")},
		{begun("a"), join(framed(16384, framed(0, "x")), framed(1<<30, long(100)), framed(256), framed(257)), begun("a")},
		// Kinds and lengths need not have the fewest bytes.
		{none, join(64, 1, 64, 3, 0, 193, 192, 128, 0, 0, 0, 128, 0, 0, 1, "x"), begun("x")},
		{none, join(192, 0, 0, 0, 0, 0, 0, 1, 192, 0, 0, 0, 0, 0, 0, 3, 0, 193, 192, 192, 0, 0, 0, 0, 0, 0, 0, 1, "y"), begun("y")},
		// What is held goes ahead of what comes.
		{api.Reader{Held: join(1)}, join(3, 0, 193, 192), begun("")},
		{api.Reader{Held: join(1, 3, 0, 193)}, join(192, 0, 1, "x"), begun("x")},
		{api.Reader{Held: start()}, nil, begun("")},
		{api.Reader{Held: join(start(), framed(0, "x"), 0)}, join(2, "yz"), begun("xyz")},
		{holding(begun("a"), 0, 2, "b"), join("c"), begun("abc")},
		{holding(begun("a"), 5, 64), join(64, long(64)), begun("a")},
		// The section's fields take the place of what stands there.
		{api.Reader{Fields: list("z=1"), Body: []byte("b")}, start(), begun("b")},
	} {
		fed(t, c.r, api.Table{}, c.b, false, c.want, api.OK)
		fed(t, c.r, api.Table{}, c.b, true, ended(c.want), api.OK)
	}
}

// TestFeedHeld: P16.3, what is not a whole frame is held, byte for byte, unless it is the last.
func TestFeedHeld(t *testing.T) {
	for _, b := range [][]byte{
		join(1), join(1, 3), join(1, 3, 0, 193), join(64), join(64, 1), join(64, 1, 64), join(64, 1, 64, 3, 0), join(192, 0, 0, 0, 0, 0, 0),
		join(0), join(0, 1), join(0, 64), join(0, 65, 144), join(0, 65, 144, long(399)), join(1, 65, 144, long(399)), join(5, 65, 144, long(399)),
		join(0, 128, 0, 1), join(0, 192, 0, 0, 0, 0, 0, 0), join(5), join(5, 1), join(255, long(7), 65, 144, long(399)),
	} {
		none := api.Reader{}
		fed(t, none, api.Table{}, b, false, holding(none, b), api.OK)
		unfed(t, none, api.Table{}, b, true, api.ErrShort)
		fed(t, none, api.Table{}, join(framed(5, "xyz"), b), false, holding(none, b), api.OK)
		fed(t, begun("a"), api.Table{}, b, false, holding(begun("a"), b), api.OK)
		unfed(t, begun("a"), api.Table{}, b, true, api.ErrShort)
		fed(t, begun("a"), api.Table{}, join(framed(0, "b"), b), false, holding(begun("ab"), b), api.OK)
		unfed(t, begun("a"), api.Table{}, join(framed(0, "b"), b), true, api.ErrShort)
		for i := range b {
			fed(t, holding(begun("a"), b[:i]), api.Table{}, b[i:], false, holding(begun("a"), b), api.OK)
			unfed(t, holding(begun("a"), b[:i]), api.Table{}, b[i:], true, api.ErrShort)
		}
	}
	fed(t, api.Reader{}, api.Table{}, nil, false, api.Reader{}, api.OK)
	fed(t, api.Reader{}, api.Table{}, framed(5), false, api.Reader{}, api.OK)
	// What stands there ahead of the beginning stays.
	early := api.Reader{Fields: list("A=1", "=2"), Body: []byte("b")}
	fed(t, early, api.Table{}, framed(5), false, early, api.OK)
	fed(t, early, api.Table{}, join(1, 3), false, holding(early, 1, 3), api.OK)
}

// TestFeedShort: P16.3, no more bytes come, and it has not begun.
func TestFeedShort(t *testing.T) {
	for _, b := range [][]byte{nil, {}, framed(5), framed(5, "x"), join(framed(2), framed(3), framed(api.MaxVar, "x"))} {
		unfed(t, api.Reader{}, api.Table{}, b, true, api.ErrShort)
		unfed(t, api.Reader{Held: b}, api.Table{}, nil, true, api.ErrShort)
		unfed(t, api.Reader{Fields: with(), Body: []byte("b")}, api.Table{}, b, true, api.ErrShort)
		fed(t, begun("a"), api.Table{}, b, true, ended(begun("a")), api.OK)
	}
}

// TestFeedBounds: P16.3, how much may be held, come, and stand in the body already; and one that has ended.
func TestFeedBounds(t *testing.T) {
	most := join(framed(5, long(397)), framed(5, long(397)))
	if len(most) != 800 {
		t.Fatalf("%d bytes", len(most))
	}
	over := append(bytes.Clone(most), 5)
	fed(t, begun("a"), api.Table{}, most, false, begun("a"), api.OK)
	fed(t, begun("a"), api.Table{}, most, true, ended(begun("a")), api.OK)
	fed(t, holding(begun("a"), most), api.Table{}, nil, false, begun("a"), api.OK)
	fed(t, holding(begun("a"), most), api.Table{}, most, true, ended(begun("a")), api.OK)
	fed(t, begun(long(200)), api.Table{}, most, false, begun(long(200)), api.OK)
	for _, fin := range []bool{false, true} {
		for _, none := range []api.Reader{{}, begun("a"), ended(begun("a")), ended(api.Reader{})} {
			unfed(t, none, api.Table{}, over, fin, api.ErrSize)
			unfed(t, none, api.Table{}, make([]byte, 100000), fin, api.ErrSize)
			unfed(t, holding(none, over), api.Table{}, nil, fin, api.ErrSize)
			unfed(t, holding(none, over), api.Table{}, []byte{0}, fin, api.ErrSize)
			unfed(t, holding(none, make([]byte, 100000)), api.Table{}, nil, fin, api.ErrSize)
			none.Body = []byte(long(201))
			unfed(t, none, api.Table{}, nil, fin, api.ErrSize)
			unfed(t, none, api.Table{}, start(), fin, api.ErrSize)
			none.Body = make([]byte, 100000)
			unfed(t, none, api.Table{}, framed(0, "x"), fin, api.ErrSize)
		}
		for _, done := range []api.Reader{{Ended: true}, ended(begun("a")), ended(begun(long(200))), ended(holding(begun(""), most)), ended(holding(begun(""), 0))} {
			for _, b := range [][]byte{nil, {}, {0}, framed(0, "x"), start(), most, join(0, 65, 145)} {
				unfed(t, done, api.Table{}, b, fin, api.ErrDone)
				unfed(t, done, badTables()[0], b, fin, api.ErrDone)
			}
		}
	}
}

// TestFeedLength: P16.3, a length above the bound is told as soon as it is read, of whatever kind, ahead of all else of its frame.
func TestFeedLength(t *testing.T) {
	for _, fin := range []bool{false, true} {
		for _, kind := range [][]byte{join(0), join(1), join(5), join(64, 0), join(64, 1), join(128, 0, 0, 7), bytes.Repeat([]byte{255}, 8)} {
			for _, length := range [][]byte{join(65, 145), join(127, 255), join(128, 0, 1, 145), join(191, 255, 255, 255), join(192, 0, 0, 0, 0, 0, 1, 145), bytes.Repeat([]byte{255}, 8)} {
				for _, more := range [][]byte{nil, {0}, []byte(long(400)), []byte(long(600))} {
					b := join(kind, length, more)
					for _, r := range []api.Reader{{}, begun(""), begun(long(200)), {Body: []byte("x")}} {
						unfed(t, r, api.Table{}, b, fin, api.ErrSize)
						unfed(t, r, badTables()[0], join(framed(5, "x"), b), fin, api.ErrSize)
						unfed(t, holding(r, b[:1]), api.Table{}, b[1:], fin, api.ErrSize)
						unfed(t, holding(r, b), api.Table{}, nil, fin, api.ErrSize)
					}
				}
				// Till it is read it is not known.
				cut := join(kind, length[:len(length)-1])
				fed(t, begun(""), api.Table{}, cut, false, holding(begun(""), cut), api.OK)
				unfed(t, begun(""), api.Table{}, cut, true, api.ErrShort)
			}
		}
		// What stands ahead of it goes first.
		unfed(t, api.Reader{}, api.Table{}, join(framed(0), 0, 65, 145), fin, api.ErrForm)
		unfed(t, begun(""), api.Table{}, join(start(), 0, 65, 145), fin, api.ErrForm)
		unfed(t, api.Reader{}, api.Table{}, join(start(), 5, 65, 145), fin, api.ErrSize)
	}
	fed(t, begun("a"), api.Table{}, framed(5, long(400)), false, begun("a"), api.OK)
	unfed(t, begun(""), api.Table{}, framed(1, long(400)), false, api.ErrForm)
	unfed(t, api.Reader{}, api.Table{}, framed(0, long(400)), false, api.ErrForm)
}

// TestFeedForm: P16.3, frames that stand where they may not; they are told once they are whole.
func TestFeedForm(t *testing.T) {
	for _, fin := range []bool{false, true} {
		for _, data := range [][]byte{nil, []byte("x"), start()[2:], []byte(long(201)), join(1), join(255)} {
			for _, x := range append(badTables(), api.Table{}) {
				unfed(t, api.Reader{}, x, framed(0, data), fin, api.ErrForm)
				unfed(t, api.Reader{Fields: with(), Body: []byte(long(200))}, x, framed(0, data), fin, api.ErrForm)
				unfed(t, begun(""), x, framed(1, data), fin, api.ErrForm)
				unfed(t, begun(""), x, join(framed(5), framed(1, data), framed(0, "x")), fin, api.ErrForm)
			}
		}
		unfed(t, api.Reader{}, api.Table{}, join(start(), start()), fin, api.ErrForm)
		unfed(t, api.Reader{}, api.Table{}, join(start(), framed(0, "x"), start()), fin, api.ErrForm)
		unfed(t, api.Reader{}, api.Table{}, join(framed(0), start()), fin, api.ErrForm)
		unfed(t, api.Reader{}, api.Table{}, join(framed(7), framed(0, "x"), start()), fin, api.ErrForm)
	}
	for _, c := range []struct {
		r api.Reader
		b []byte
	}{{api.Reader{}, framed(0, "xyz")}, {begun("a"), start()}} {
		for i := 1; i < len(c.b); i++ {
			fed(t, c.r, api.Table{}, c.b[:i], false, holding(c.r, c.b[:i]), api.OK)
			unfed(t, c.r, api.Table{}, c.b[:i], true, api.ErrShort)
			unfed(t, holding(c.r, c.b[:i]), api.Table{}, c.b[i:], false, api.ErrForm)
		}
	}
}

// TestFeedBody: P16.3, how many bytes the body may have, in one frame and in several.
func TestFeedBody(t *testing.T) {
	for _, fin := range []bool{false, true} {
		for _, n := range []int{0, 1, 63, 64, 100, 199, 200} {
			want := begun(long(200))
			want.Ended = fin
			fed(t, begun(long(n)), api.Table{}, framed(0, long(200-n)), fin, want, api.OK)
			fed(t, begun(long(n)), api.Table{}, join(framed(0, long(200-n)), framed(0), framed(9, "x")), fin, want, api.OK)
			unfed(t, begun(long(n)), api.Table{}, framed(0, long(201-n)), fin, api.ErrSize)
			unfed(t, begun(long(n)), api.Table{}, join(framed(0, long(200-n)), framed(0, "x")), fin, api.ErrSize)
			unfed(t, begun(long(n)), api.Table{}, framed(0, long(400)), fin, api.ErrSize)
		}
		unfed(t, api.Reader{}, api.Table{}, join(start(), framed(0, long(150)), framed(0, long(51))), fin, api.ErrSize)
		unfed(t, begun(""), api.Table{}, join(framed(0, long(201)), start()), fin, api.ErrSize)
	}
	// It is told once the frame is whole.
	b := framed(0, long(201))
	fed(t, begun(""), api.Table{}, b[:len(b)-1], false, holding(begun(""), b[:len(b)-1]), api.OK)
	unfed(t, begun(""), api.Table{}, b[:len(b)-1], true, api.ErrShort)
}

// TestFeedSection: P16.3, what fields' Decode refuses, and then what Check refuses.
func TestFeedSection(t *testing.T) {
	x := state(160, 5, "a=1", ":path=/x")
	for _, c := range []struct {
		section []byte
		want    api.Errno
	}{
		{nil, api.ErrShort},
		{join(255), api.ErrShort},
		{join(0, 33), api.ErrShort},
		{join(0, 65, 3, "GE"), api.ErrShort},
		{join(255, slices.Repeat([]byte{128}, 9), 0), api.ErrSize},
		{join(255, slices.Repeat([]byte{255}, 8), 127), api.ErrRange},
		{join(0, 193, 192, 0), api.ErrKind},
		{join(0, 193, 192, 203), api.ErrNone},
		{join(0, 193, 192, 128), api.ErrRange},
		{join(3, 193, 192, 128), api.ErrOld},
		{join(0, slices.Repeat([]byte{197}, 9)), api.ErrSize},
		{join(0, 193, 192, 32, 0), api.ErrForm},
		{join(0, 193, 192, 33, "a", 41, long(41)), api.ErrForm},
		// And Check.
		{join(0), api.ErrForm},
		{join(0, 193), api.ErrForm},
		{join(0, 192), api.ErrForm},
		{join(5, 193, 129), api.ErrForm},
		{join(0, 193, 192, 192), api.ErrForm},
		{join(0, 193, 194, 192), api.ErrForm},
		{join(5, 193, 192, 128), api.ErrForm},
		{join(0, 193, 192, 195), api.ErrForm},
		{join(0, 197, 193, 192), api.ErrForm},
		{join(0, 193, 197, 192), api.ErrForm},
		{join(0, 193, 192, 33, "A", 0), api.ErrForm},
		{join(0, 193, 192, 33, " ", 0), api.ErrForm},
	} {
		for _, fin := range []bool{false, true} {
			unfed(t, api.Reader{}, x, framed(1, c.section), fin, c.want)
			unfed(t, api.Reader{}, x, join(framed(7, "x"), framed(1, c.section), framed(0, long(201))), fin, c.want)
			unfed(t, holding(api.Reader{}, 1), x, framed(1, c.section)[1:], fin, c.want)
		}
	}
	for _, bad := range badTables() {
		for _, section := range [][]byte{nil, join(0, 193, 192), join(200, 128), join(0), join(255)} {
			unfed(t, api.Reader{}, bad, framed(1, section), false, api.ErrState)
			unfed(t, api.Reader{}, bad, framed(1, section), true, api.ErrState)
		}
		// A table that is not asked is not refused.
		fed(t, begun("a"), bad, framed(0, "b"), true, ended(begun("ab")), api.OK)
		fed(t, api.Reader{}, bad, join(1, 3, 0), false, holding(api.Reader{}, 1, 3, 0), api.OK)
		unfed(t, api.Reader{}, bad, framed(5, "b"), true, api.ErrShort)
	}
	got := api.Reader{Fields: list(":method=GET", ":path=/x", "a=1"), Begun: true, Ended: true}
	fed(t, api.Reader{}, x, framed(1, 5, 193, 128, 129), true, got, api.OK)
	fed(t, api.Reader{}, state(160, 9, ":path=/x", "a=1"), framed(1, 9, 193, 129, 128), true, got, api.OK)
}

// TestFeedWait: P16.3, a section that needs what is not there yet: its frame and all behind it are held, and go on once it is.
func TestFeedWait(t *testing.T) {
	now, then := state(160, 4), state(160, 5, "a=1")
	waiting := framed(1, 5, 193, 192, 128)
	want := api.Reader{Fields: with("a=1"), Begun: true}
	for _, behind := range [][]byte{nil, framed(0, "x"), join(0), join(0, 65, 145), start(), join(framed(0, "x"), 5, 1)} {
		held := join(waiting, behind)
		for _, fin := range []bool{false, true} {
			for _, ahead := range [][]byte{nil, framed(5), framed(6, long(100))} {
				b := join(ahead, held)
				for i := range b {
					fed(t, holding(api.Reader{}, b[:i]), now, b[i:], fin, holding(api.Reader{}, held), api.ErrWait)
				}
				fed(t, holding(api.Reader{}, b), now, nil, fin, holding(api.Reader{}, held), api.ErrWait)
			}
			// What stands there stays, and it has not begun.
			early := api.Reader{Fields: list("z=1"), Body: []byte("b")}
			fed(t, early, now, held, fin, holding(early, held), api.ErrWait)
			fed(t, early, now, join(framed(9), held), fin, holding(early, held), api.ErrWait)
			// What stands ahead of it goes first, and so do refusals of the table.
			unfed(t, api.Reader{}, now, join(framed(0), held), fin, api.ErrForm)
			unfed(t, api.Reader{}, badTables()[0], held, fin, api.ErrState)
			unfed(t, begun(""), now, held, fin, api.ErrForm)
		}
	}
	fed(t, holding(api.Reader{}, waiting), then, nil, false, want, api.OK)
	fed(t, holding(api.Reader{}, waiting), then, nil, true, ended(want), api.OK)
	want.Body = []byte("xy")
	fed(t, holding(api.Reader{}, waiting, framed(0, "x"), 0), then, join(1, "y"), true, ended(want), api.OK)
	// Wherever it stands, what is wrong behind Need is told only once that is there.
	wrong := framed(1, 5, 0)
	fed(t, api.Reader{}, now, wrong, true, holding(api.Reader{}, wrong), api.ErrWait)
	unfed(t, api.Reader{}, then, wrong, true, api.ErrKind)
	// Not whole, it does not wait for the table.
	fed(t, api.Reader{}, now, waiting[:4], false, holding(api.Reader{}, waiting[:4]), api.OK)
	unfed(t, api.Reader{}, now, waiting[:4], true, api.ErrShort)
}

// TestFeedWaitBounds: P16.3, one that waits holds all that came, and is fed no more once that is too much.
func TestFeedWaitBounds(t *testing.T) {
	now, then := state(160, 4), state(160, 5, "a=1")
	waiting := framed(1, 5, 193, 192, 128)
	fill := func(n int) []byte { return join(waiting, framed(5, long(n-len(waiting)-403)), framed(5, long(397))) }
	for _, n := range []int{600, 799, 800} {
		b := fill(n)
		if len(b) != n {
			t.Fatalf("%d bytes, want %d", len(b), n)
		}
		fed(t, api.Reader{}, now, b, false, holding(api.Reader{}, b), api.ErrWait)
		fed(t, holding(api.Reader{}, b), now, nil, true, holding(api.Reader{}, b), api.ErrWait)
		more := framed(5, long(397))
		fed(t, holding(api.Reader{}, b), now, join(more, more), false, holding(api.Reader{}, b, more, more), api.ErrWait)
		fed(t, holding(api.Reader{}, b), then, join(more, more), false, api.Reader{Fields: with("a=1"), Begun: true}, api.OK)
	}
	over := join(fill(800), 5)
	unfed(t, holding(api.Reader{}, over), now, nil, false, api.ErrSize)
	unfed(t, holding(api.Reader{}, over), then, nil, true, api.ErrSize)
}

// TestFeedSplit: P16.3, at whatever places bytes are split, the reader comes to the same, and holds what is not whole.
func TestFeedSplit(t *testing.T) {
	x := state(160, 5, "a=1", "b=2")
	b := join(framed(9, "zzz"), framed(1, 5, 193, 192, 128, 129), framed(70, "zz"), framed(0, "body"), framed(0), framed(0, long(70)), framed(1<<20, "z"))
	want := api.Reader{Fields: with("b=2", "a=1"), Begun: true, Body: []byte("body" + long(70)), Ended: true}
	for i := range len(b) + 1 {
		first, e := Feed(api.Reader{}, x, b[:i], false)
		if e != api.OK || first.Ended {
			t.Fatalf("Feed(%v) = %v, %d", b[:i], first, e)
		}
		if !bytes.HasSuffix(b[:i], first.Held) {
			t.Errorf("Feed(%v) holds %v", b[:i], first.Held)
		}
		fed(t, first, x, b[i:], true, want, api.OK)
		for j := i; j <= len(b); j++ {
			second, e := Feed(first, x, b[i:j], false)
			whole, _ := Feed(api.Reader{}, x, b[:j], false)
			if e != api.OK || !same(second, whole) {
				t.Fatalf("fed up to %d, and %d: %v, %d, want %v", i, j, second, e, whole)
			}
		}
	}
	var r api.Reader
	for _, c := range b {
		r, _ = Feed(r, x, []byte{c}, false)
	}
	fed(t, r, x, nil, true, want, api.OK)
}

// pick one of a list by chance.
func pick[T any](dice *rand.Rand, l []T) T { return l[dice.IntN(len(l))] }

// someFields by chance; some of them may not be.
func someFields(dice *rand.Rand) []api.Field {
	names := []string{"a", "a", "b", "age", "cookie", "status", long(20), ":authority", ":status", "A"}
	values := []string{"", "0", "1", "/", "GET", long(40)}
	l := with()
	if dice.IntN(4) == 0 {
		l = list(":path=/x", ":method=POST", ":authority=here")
	}
	for range dice.IntN(5) {
		n := len(names) - 3
		if dice.IntN(12) == 0 {
			n = len(names)
		}
		l = append(l, api.Field{Name: names[dice.IntN(n)], Value: pick(dice, values)})
	}
	return l
}

// someTable by chance.
func someTable(dice *rand.Rand) api.Table {
	x := api.Table{Room: dice.IntN(api.MaxTable + 1), Put: pick(dice, []int{0, 1, 60, 63, 64, 254, 255, 1 << 30, api.MaxVar - 3})}
	for range dice.IntN(4) {
		if then, e := table.Insert(x, pick(dice, list("a=1", "b=", "cookie=0", long(20)+"=1"))); e == api.OK {
			x = then
		}
	}
	return x
}

// someRequest by chance; some have too long a body.
func someRequest(dice *rand.Rand) api.Request {
	return api.Request{Fields: someFields(dice), Body: []byte(long(pick(dice, []int{0, 0, 1, 5, 63, 64, 199, 200, 201})))}
}

// someFrame by chance, of any kind.
func someFrame(dice *rand.Rand, x api.Table) []byte {
	kind := pick(dice, []int{0, 0, 0, 1, 2, 5, 64, api.MaxVar})
	if kind == 1 && dice.IntN(3) > 0 {
		_, _, section, _ := fields.Encode(x, someFields(dice), dice.IntN(2) > 0)
		return framed(1, section)
	}
	return framed(kind, long(pick(dice, []int{0, 1, 3, 62, 64, 100, 199, 200, 201, 400, 401})))
}

// TestAgain: P16.2 and P16.3, what is written is read as it was, fed so many bytes at once, with what was told ahead or not yet.
func TestAgain(t *testing.T) {
	dice := rand.New(rand.NewPCG(16, 1))
	written := 0
	for range 30000 {
		x, r, ahead := someTable(dice), someRequest(dice), dice.IntN(2) > 0
		then, told, b, e := Write(x, r, ahead)
		want := Check(r.Fields)
		if want == api.OK && len(r.Body) > 200 {
			want = api.ErrSize
		}
		if e != want {
			t.Fatalf("Write(%v, %q) = %d, want %d", x, r, e, want)
		}
		if e != api.OK {
			unwritten(t, x, r, e)
			continue
		}
		written++
		then2, told2, section, _ := fields.Encode(x, r.Fields, ahead)
		whole := framed(1, section)
		if len(r.Body) > 0 {
			whole = join(whole, framed(0, r.Body))
		}
		if !sameTable(then, then2) || !bytes.Equal(told, told2) || !bytes.Equal(b, whole) {
			t.Fatalf("Write(%v, %q, %v) = %v, %v, %v", x, r, ahead, then, told, b)
		}
		if len(section) > 400 {
			unfed(t, api.Reader{}, then, b, true, api.ErrSize)
			continue
		}
		at := dice.IntN(len(b) + 1)
		before, e := Feed(api.Reader{}, x, b[:at], false)
		if e != api.OK && e != api.ErrWait || e == api.ErrWait && len(told) == 0 {
			t.Fatalf("Feed(%v, %v) = %v, %d", x, b[:at], before, e)
		}
		fed(t, before, then, b[at:], true, api.Reader{Fields: r.Fields, Begun: true, Body: r.Body, Ended: true}, api.OK)
	}
	if written < 20000 {
		t.Errorf("only %d were written", written)
	}
}

// number that bytes begin with, by a model: false, if it is not whole.
func number(b []byte) (int, []byte, bool) {
	if len(b) == 0 || len(b) < 1<<(b[0]>>6) {
		return 0, nil, false
	}
	n := 0
	for i, c := range b[:1<<(b[0]>>6)] {
		if i == 0 {
			c %= 64
		}
		n = 256*n + int(c)
	}
	return n, b[1<<(b[0]>>6):], true
}

// modelFeed is Feed, told anew (P16.3): with all that is there in one list, cut frame by frame.
func modelFeed(r api.Reader, x api.Table, b []byte, fin bool) (api.Reader, api.Errno) {
	if len(r.Held) > 800 || len(b) > 800 || len(r.Body) > 200 {
		return api.Reader{}, 1
	}
	if r.Ended {
		return api.Reader{}, 17
	}
	r.Held = join(r.Held, b)
	for {
		kind, left, ok := number(r.Held)
		length := 0
		if ok {
			length, left, ok = number(left)
		}
		if ok && length > 400 {
			return api.Reader{}, 1
		}
		if !ok || length > len(left) {
			break
		}
		data, rest := left[:length], left[length:]
		if kind == 1 == r.Begun && kind < 2 {
			return api.Reader{}, 3
		}
		if kind == 0 {
			if r.Body = join(r.Body, data); len(r.Body) > 200 {
				return api.Reader{}, 1
			}
		}
		if kind == 1 {
			l, e := fields.Decode(x, data)
			if e == 14 {
				return r, e
			}
			if e == 0 {
				e = modelCheck(l)
			}
			if e != 0 {
				return api.Reader{}, e
			}
			r.Fields, r.Begun = l, true
		}
		r.Held = rest
	}
	if fin && (len(r.Held) > 0 || !r.Begun) {
		return api.Reader{}, 4
	}
	r.Ended = fin
	return r, 0
}

// someBytes by chance: whole frames, spoilt ones, and ends cut off.
func someBytes(dice *rand.Rand, x api.Table) []byte {
	var b []byte
	if dice.IntN(2) == 0 {
		_, _, b, _ = Write(x, someRequest(dice), dice.IntN(2) > 0)
	}
	for range dice.IntN(4) {
		b = join(b, someFrame(dice, x))
	}
	if len(b) > 0 && dice.IntN(3) == 0 {
		b[dice.IntN(min(len(b), 12))] = pick(dice, []byte{0, 1, 2, 3, 64, 65, 128, 192, 255, byte(dice.IntN(256))})
	}
	if dice.IntN(3) == 0 {
		b = b[:dice.IntN(len(b)+1)]
	}
	return b
}

// TestChance: P16.3, readers fed by chance, step by step, held against a model.
func TestChance(t *testing.T) {
	dice := rand.New(rand.NewPCG(16, 2))
	seen := map[api.Errno]int{}
	for range 40000 {
		x := someTable(dice)
		var r api.Reader
		if dice.IntN(3) == 0 {
			r = begun(long(dice.IntN(203)))
		}
		r.Ended = dice.IntN(30) == 0
		for range 5 {
			b, fin := someBytes(dice, x), dice.IntN(4) == 0
			want, e := modelFeed(clone(r), x, b, fin)
			seen[e]++
			fed(t, r, x, b, fin, want, e)
			if e != api.OK && e != api.ErrWait {
				break
			}
			r = want
			if e == api.ErrWait && x.Put < api.MaxVar-3 && dice.IntN(2) == 0 {
				x, _ = table.Insert(state(160, x.Put), list("a=1")[0])
			}
		}
	}
	for _, e := range []api.Errno{api.OK, api.ErrSize, api.ErrKind, api.ErrForm, api.ErrShort, api.ErrWait, api.ErrDone} {
		if seen[e] < 100 {
			t.Errorf("%d were answered by %d", seen[e], e)
		}
	}
}

// TestFeedAll: P16.3, all lists of three bytes, and of two behind a beginning, whole and byte by byte, held against a model.
func TestFeedAll(t *testing.T) {
	for word := range 1 << 18 {
		b := join(word>>16, word>>8, word)
		for _, fin := range []bool{false, true} {
			want, e := modelFeed(api.Reader{}, api.Table{}, b, fin)
			fed(t, api.Reader{}, api.Table{}, b, fin, want, e)
		}
		if word < 1<<16 {
			want, e := modelFeed(begun("a"), api.Table{}, b[1:], false)
			fed(t, begun("a"), api.Table{}, b[1:], false, want, e)
			want, e = modelFeed(holding(begun("a"), b[1:2]), api.Table{}, b[2:], true)
			fed(t, holding(begun("a"), b[1:2]), api.Table{}, b[2:], true, want, e)
		}
	}
}

// roomy list: with spare room behind it, in which something stands.
func roomy[T any](l []T, spare T) []T {
	return append(slices.Clone(l), slices.Repeat([]T{spare}, 500)...)[:len(l)]
}

// spoil a list, spare room too.
func spoil[T any](l []T, by T) {
	for i := range l[:cap(l)] {
		l[:cap(l)][i] = by
	}
}

// unspoilt tells whether the spare room of a list is as roomy made it.
func unspoilt[T comparable](l []T, spare T) bool {
	return !slices.ContainsFunc(l[len(l):cap(l)][:500], func(x T) bool { return x != spare })
}

// TestWriteMemory: P16.2, nothing that is handed in is changed, or shared with what is answered.
func TestWriteMemory(t *testing.T) {
	f := list("spare=1")[0]
	for _, ahead := range []bool{false, true} {
		for _, body := range []string{"", "body", long(200)} {
			x, r := state(160, 5, "a=1"), api.Request{Fields: with("a=1", "b=2"), Body: []byte(body)}
			wantTable, wantTold, wantBytes, _ := Write(x, r, ahead)
			wantTable, wantTold, wantBytes = cloneTable(wantTable), bytes.Clone(wantTold), bytes.Clone(wantBytes)
			x.Rows, r.Fields, r.Body = roomy(x.Rows, f), roomy(r.Fields, f), roomy(r.Body, 7)
			then, told, b, _ := Write(x, r, ahead)
			then2, told2, b2, _ := Write(x, r, ahead)
			spoil(then.Rows, api.Field{})
			if !bytes.Equal(told, wantTold) {
				t.Errorf("Write(%q): what is told ahead shares memory", body)
			}
			spoil(told, 99)
			if !bytes.Equal(b, wantBytes) {
				t.Errorf("Write(%q): bytes share memory with what is told ahead", body)
			}
			spoil(b, 99)
			if !sameTable(x, state(160, 5, "a=1")) || !slices.Equal(r.Fields, with("a=1", "b=2")) || string(r.Body) != body {
				t.Errorf("Write(%q) changed what was handed in, or shares it: %v, %q", body, x, r)
			}
			if !unspoilt(x.Rows, f) || !unspoilt(r.Fields, f) || !unspoilt(r.Body, 7) {
				t.Errorf("Write(%q) changed spare room", body)
			}
			spoil(x.Rows, api.Field{})
			spoil(r.Fields, api.Field{})
			spoil(r.Body, 99)
			if !sameTable(then2, wantTable) || !bytes.Equal(told2, wantTold) || !bytes.Equal(b2, wantBytes) {
				t.Errorf("Write(%q): an answer shares memory with another, or with what was handed in", body)
			}
		}
	}
}

// TestFeedMemory: P16.3, nothing that is handed in is changed, or shared with what is answered; lists of one answer share nothing.
func TestFeedMemory(t *testing.T) {
	f := list("spare=1")[0]
	early := api.Reader{Fields: list("z=1"), Body: []byte("b")}
	for _, c := range []struct {
		r   api.Reader
		put int
		b   []byte
	}{
		{api.Reader{}, 5, nil},
		{api.Reader{}, 5, framed(1, 5, 193, 192, 128)},
		{api.Reader{}, 4, framed(1, 5, 193, 192, 128)},
		{early, 4, join(framed(5), framed(1, 5, 193, 192, 128), framed(0, "xyz"))},
		{early, 5, join(framed(1, 5, 193, 192, 128), framed(0, "xyz"), 0, 9, "tuvw")},
		{early, 5, join(1, 3)},
		{begun("body"), 5, nil},
		{begun("body"), 5, join(framed(0, "xyz"), 0, 9, "tuvw")},
		{begun(""), 5, join(framed(0, "xyz"), 0, 9, "tuvw")},
		{holding(begun("body"), 0, 4, "rs"), 5, join("tu")},
		{holding(begun("body"), 0, 4, "rs"), 5, join("tuv")},
		{holding(begun("body"), 0, 4, "rs"), 5, nil},
	} {
		r, x, b := clone(c.r), state(160, c.put, "a=1"), roomy(c.b, 7)
		want, wantError := modelFeed(c.r, cloneTable(x), c.b, false)
		want = clone(want)
		x.Rows, r.Held, r.Fields, r.Body = roomy(x.Rows, f), roomy(r.Held, 7), roomy(r.Fields, f), roomy(r.Body, 7)
		got, e := Feed(r, x, b, false)
		second, _ := Feed(r, x, b, false)
		spoil(got.Held, 99)
		if !slices.Equal(got.Fields, want.Fields) || !bytes.Equal(got.Body, want.Body) || e != wantError {
			t.Errorf("Feed(%v, %v): lists of one answer share memory: %v", c.r, c.b, got)
		}
		spoil(got.Body, 98)
		if len(got.Held) > 0 && got.Held[0] != 99 {
			t.Errorf("Feed(%v, %v): what is held shares memory with the body", c.r, c.b)
		}
		spoil(got.Fields, api.Field{})
		if !same(r, c.r) || !sameTable(x, state(160, c.put, "a=1")) || !bytes.Equal(b, c.b) {
			t.Errorf("Feed(%v, %v) changed what was handed in, or shares it", c.r, c.b)
		}
		if !unspoilt(x.Rows, f) || !unspoilt(r.Held, 7) || !unspoilt(r.Fields, f) || !unspoilt(r.Body, 7) || !unspoilt(b, 7) {
			t.Errorf("Feed(%v, %v) changed spare room", c.r, c.b)
		}
		spoil(x.Rows, api.Field{})
		spoil(r.Held, 97)
		spoil(r.Fields, api.Field{})
		spoil(r.Body, 97)
		spoil(b, 97)
		if !same(second, want) {
			t.Errorf("Feed(%v, %v): an answer shares memory with another, or with what was handed in: %v", c.r, c.b, second)
		}
	}
}
