package fields

import (
	"bytes"
	"math"
	"math/rand/v2"
	"slices"
	"strings"
	"testing"

	"spillway/api"
	"spillway/prefix"
	"spillway/table"
)

// field of a name and a value.
func field(name, value string) api.Field {
	return api.Field{Name: name, Value: value}
}

// list of fields, each a name, =, and a value.
func list(l ...string) []api.Field {
	var out []api.Field
	for _, s := range l {
		name, value, _ := strings.Cut(s, "=")
		out = append(out, field(name, value))
	}
	return out
}

// state of a table: its room, how many were put in, and rows.
func state(room, put int, l ...string) api.Table {
	return api.Table{Room: room, Put: put, Rows: list(l...)}
}

// same tells whether two tables are: a list without elements may be nil or not.
func same(a, b api.Table) bool {
	return a.Room == b.Room && a.Put == b.Put && slices.Equal(a.Rows, b.Rows)
}

// clone of a table.
func clone(t api.Table) api.Table {
	t.Rows = slices.Clone(t.Rows)
	return t
}

// long text of so many bytes.
func long(n int) string { return strings.Repeat("x", n) }

// join bytes: numbers are bytes, and texts are theirs.
func join(l ...any) []byte {
	var b []byte
	for _, x := range l {
		switch y := x.(type) {
		case int:
			b = append(b, byte(y))
		case string:
			b = append(b, y...)
		case []byte:
			b = append(b, y...)
		}
	}
	return b
}

// badTables may not be.
func badTables() []api.Table {
	return []api.Table{
		{Room: -1},
		{Room: api.MaxTable + 1},
		{Room: math.MaxInt, Put: math.MinInt},
		{Put: -1},
		{Put: api.MaxVar + 1},
		state(160, 0, "a=1"),
		state(33, 1, "a=1"),
		state(160, 1, "=1"),
		state(160, 1, "a="+long(41)),
		state(160, 5, long(21)+"="),
		{Room: 160, Put: 1000, Rows: make([]api.Field, 1000)},
	}
}

// TestKnown: P15.1, the eleven fields in their order, and in new memory each time.
func TestKnown(t *testing.T) {
	want := list(":path=/", ":method=GET", ":method=POST", ":status=200", ":status=404", "age=0",
		"date=", "etag=", "cookie=", "server=", ":authority=")
	first := Known()
	if !slices.Equal(first, want) {
		t.Errorf("Known() = %q, want %q", first, want)
	}
	clear(first[:cap(first)])
	if second := Known(); !slices.Equal(second, want) {
		t.Errorf("Known() = %q after another answer was cleared", second)
	}
}

// goodFields may be, at all their bounds.
func goodFields() []api.Field {
	return []api.Field{
		field("a", ""),
		field("a", long(40)),
		field(long(20), ""),
		field(long(20), long(40)),
		field("\x00", "\xff"),
		field(strings.Repeat("é", 10), strings.Repeat("é", 20)),
		field(":path", "/"),
		field("A b", "\n"),
	}
}

// badFields may not be.
func badFields() []api.Field {
	return []api.Field{
		{},
		field("", "1"),
		field("", long(41)),
		field(long(21), ""),
		field("a", long(41)),
		field(long(21), long(41)),
		field(long(1000), long(1000)),
		field(strings.Repeat("é", 11), ""),
		field("a", strings.Repeat("é", 21)),
	}
}

// TestCheck: P15.2, how many fields there may be, and what they may be, at the bounds and behind them.
func TestCheck(t *testing.T) {
	checked := func(l []api.Field, want api.Errno) {
		t.Helper()
		if e := Check(l); e != want {
			t.Errorf("Check(%q) = %d, want %d", l, e, want)
		}
	}
	checked(nil, api.OK)
	checked([]api.Field{}, api.OK)
	checked(goodFields(), api.OK)
	for _, f := range goodFields() {
		checked([]api.Field{f}, api.OK)
		checked(slices.Repeat([]api.Field{f}, api.MaxFields), api.OK)
		checked(slices.Repeat([]api.Field{f}, api.MaxFields+1), api.ErrSize)
	}
	for _, f := range badFields() {
		for i := range api.MaxFields {
			l := slices.Repeat([]api.Field{field("a", "1")}, api.MaxFields)
			l[i] = f
			checked(l, api.ErrForm)
			checked(l[:i+1], api.ErrForm)
			checked(append(l, field("a", "1")), api.ErrSize)
		}
		checked(slices.Repeat([]api.Field{f}, 1000), api.ErrSize)
	}
}

// encoding: what Encode is given, and what it is to answer.
type encoding struct {
	t     api.Table
	l     []api.Field
	ahead bool
	then  api.Table
	told  []byte
	b     []byte
}

func (c encoding) try(t *testing.T) {
	t.Helper()
	then, told, b, e := Encode(c.t, c.l, c.ahead)
	if !same(then, c.then) || !bytes.Equal(told, c.told) || !bytes.Equal(b, c.b) || e != api.OK {
		t.Errorf("Encode(%v, %q, %v) = %v, %v, %v, %d, want %v, %v, %v, OK", c.t, c.l, c.ahead, then, told, b, e, c.then, c.told, c.b)
	}
}

// TestEncodeKnown: P15.3, fields that are Known, or whose Name is a Known one's, tell nothing ahead but what may be.
func TestEncodeKnown(t *testing.T) {
	for n, f := range Known() {
		for _, x := range []api.Table{{}, state(160, 3, "a=1"), {Room: 160, Put: 1, Rows: []api.Field{f}}} {
			for _, ahead := range []bool{false, true} {
				encoding{x, []api.Field{f}, ahead, x, nil, join(0, 192+n)}.try(t)
			}
		}
	}
	first := map[string]int{":path": 0, ":method": 1, ":status": 3, "age": 5, "date": 6, "etag": 7, "cookie": 8, "server": 9, ":authority": 10}
	for name, n := range first {
		for _, value := range []string{"other", long(40), "\xff"} {
			want := join(0, 64+n, len(value), value)
			encoding{state(160, 7), []api.Field{field(name, value)}, false, state(160, 7), nil, want}.try(t)
			encoding{state(0, 7), []api.Field{field(name, value)}, true, state(0, 7), nil, want}.try(t)
		}
	}
	// Letters, and what is empty, make another field.
	encoding{state(0, 0), list("age="), true, state(0, 0), nil, join(0, 69, 0)}.try(t)
	encoding{state(0, 0), list("date=0"), true, state(0, 0), nil, join(0, 70, 1, "0")}.try(t)
	encoding{state(0, 0), list(":method=get"), true, state(0, 0), nil, join(0, 65, 3, "get")}.try(t)
	encoding{state(0, 0), list("Age=0"), true, state(0, 0), nil, join(0, 35, "Age", 1, "0")}.try(t)
	// A Known one is told by its number even where the table has it.
	encoding{state(160, 1, "age=0"), list("age=0"), true, state(160, 1, "age=0"), nil, join(0, 197)}.try(t)
}

// TestEncodePlain: P15.3, names and values whose lengths go beyond the bits that are left for them.
func TestEncodePlain(t *testing.T) {
	for _, c := range []struct {
		f    api.Field
		want []byte
	}{
		{field("a", "5"), join(0, 33, "a", 1, "5")},
		{field("a", ""), join(0, 33, "a", 0)},
		{field(long(6), "5"), join(0, 38, long(6), 1, "5")},
		{field(long(7), "5"), join(0, 39, 0, long(7), 1, "5")},
		{field(long(20), long(40)), join(0, 39, 13, long(20), 40, long(40))},
		{field("\xff\x00", "\x00\xff"), join(0, 34, 255, 0, 2, 0, 255)},
	} {
		encoding{state(160, 9), []api.Field{c.f}, false, state(160, 9), nil, c.want}.try(t)
	}
}

// TestEncodeReferred: P15.3, fields that the table has, counted down from the greatest number that is referred to.
func TestEncodeReferred(t *testing.T) {
	three := state(160, 9, "a=1", "b=2", "c=3") // numbers 6 to 8
	for _, ahead := range []bool{false, true} {
		for _, c := range []encoding{
			{l: list("a=1"), b: join(7, 128)},
			{l: list("b=2"), b: join(8, 128)},
			{l: list("c=3"), b: join(9, 128)},
			{l: list("a=1", "c=3"), b: join(9, 130, 128)},
			{l: list("c=3", "a=1", "b=2", "c=3"), b: join(9, 128, 130, 129, 128)},
			{l: list("b=2", "a=1", "age=0", "age=7"), b: join(8, 128, 129, 197, 69, 1, "7")},
		} {
			c.t, c.then = three, three
			if ahead && slices.Contains(c.l, field("age", "7")) {
				c.then = state(160, 10, "a=1", "b=2", "c=3", "age=7")
				c.told = join(67, "age", 1, "7")
				c.b = join(10, 130, 131, 197, 128)
			}
			c.ahead = ahead
			c.try(t)
		}
	}
	// The last one that is the same is referred to, and none that only has the same name.
	twice := state(160, 4, "a=1", "b=2", "a=1", "b=3")
	encoding{twice, list("a=1"), true, twice, nil, join(3, 128)}.try(t)
	encoding{twice, list("b=2"), true, twice, nil, join(2, 128)}.try(t)
	encoding{twice, list("b=4"), true, twice, nil, join(0, 33, "b", 1, "4")}.try(t)
	// Need does not fit into its first byte.
	encoding{state(160, 254, "a=1"), list("a=1"), false, state(160, 254, "a=1"), nil, join(254, 128)}.try(t)
	encoding{state(160, 255, "a=1"), list("a=1"), false, state(160, 255, "a=1"), nil, join(255, 0, 128)}.try(t)
	most := state(160, api.MaxVar, "a=1", "b=2")
	need, _ := prefix.Encode(0, 8, api.MaxVar)
	encoding{most, list("a=1", "b=2"), true, most, nil, join(need, 129, 128)}.try(t)
}

// TestEncodeAhead: P15.3, what is told ahead while there is room, and none goes for it.
func TestEncodeAhead(t *testing.T) {
	for _, c := range []encoding{
		{state(34, 0), list("a=1"), true, state(34, 1, "a=1"), join(65, "a", 1, "1"), join(1, 128)},
		{state(33, 0), list("a=1"), true, state(33, 0), nil, join(0, 33, "a", 1, "1")},
		{state(0, 0), list("a=1"), true, state(0, 0), nil, join(0, 33, "a", 1, "1")},
		{state(68, 5, "b=2"), list("a=1"), true, state(68, 6, "b=2", "a=1"), join(65, "a", 1, "1"), join(6, 128)},
		{state(67, 5, "b=2"), list("a=1"), true, state(67, 5, "b=2"), nil, join(0, 33, "a", 1, "1")},
		// What is too great stays behind, what comes later may still find room.
		{state(68, 0), list("a="+long(40), "b=2", "c=3", "d=4", "b=2"), true, state(68, 2, "b=2", "c=3"),
			join(65, "b", 1, "2", 65, "c", 1, "3"), join(2, 33, "a", 40, long(40), 129, 128, 33, "d", 1, "4", 129)},
		{state(68, 1, "b=2"), list("a=1", "b=2"), true, state(68, 2, "b=2", "a=1"), join(65, "a", 1, "1"), join(2, 128, 129)},
		// A Known one is not told ahead, one that has its name is.
		{state(160, 0), list("cookie=", "cookie=x", "cookie="), true, state(160, 1, "cookie=x"), join(70, "cookie", 1, "x"), join(1, 200, 128, 200)},
		// Lengths at the bounds of their bits.
		{state(160, 0), []api.Field{field(long(20), long(40))}, true, api.Table{Room: 160, Put: 1, Rows: []api.Field{field(long(20), long(40))}},
			join(84, long(20), 40, long(40)), join(1, 128)},
		// The last number.
		{state(160, api.MaxVar), list("a=1"), true, state(160, api.MaxVar), nil, join(0, 33, "a", 1, "1")},
		{state(160, 4), list("a=1", "b=2", "c=3", "d=4", "e=5"), true, state(160, 8, "a=1", "b=2", "c=3", "d=4"),
			join(65, "a", 1, "1", 65, "b", 1, "2", 65, "c", 1, "3", 65, "d", 1, "4"),
			join(8, 131, 130, 129, 128, 33, "e", 1, "5")},
		{state(160, 0), nil, true, state(160, 0), nil, join(0)},
		{state(160, 0), []api.Field{}, false, state(160, 0), nil, join(0)},
		{state(160, 0), list("a=1", "a=1"), false, state(160, 0), nil, join(0, 33, "a", 1, "1", 33, "a", 1, "1")},
	} {
		c.try(t)
	}
	need, _ := prefix.Encode(0, 8, api.MaxVar)
	encoding{state(160, api.MaxVar-1), list("a=1", "b=2"), true, state(160, api.MaxVar, "a=1"),
		join(65, "a", 1, "1"), join(need, 128, 33, "b", 1, "2")}.try(t)
}

// TestEncodeRefuses: P15.3, tables ahead of fields, too many ahead of what may not be.
func TestEncodeRefuses(t *testing.T) {
	refused := func(x api.Table, l []api.Field, want api.Errno) {
		t.Helper()
		for _, ahead := range []bool{false, true} {
			then, told, b, e := Encode(x, l, ahead)
			if !same(then, api.Table{}) || len(told) > 0 || len(b) > 0 || e != want {
				t.Errorf("Encode(%v, %q, %v) = %v, %v, %v, %d, want nothing and %d", x, l, ahead, then, told, b, e, want)
			}
		}
	}
	for _, x := range badTables() {
		refused(x, nil, api.ErrState)
		refused(x, list("a=1"), api.ErrState)
		refused(x, make([]api.Field, 9), api.ErrState)
		refused(x, make([]api.Field, 1), api.ErrState)
	}
	for _, x := range []api.Table{{}, state(160, 1, "a=1"), state(160, api.MaxVar)} {
		refused(x, make([]api.Field, 9), api.ErrSize)
		refused(x, slices.Repeat(list("a=1"), 9), api.ErrSize)
		for _, f := range badFields() {
			refused(x, []api.Field{f}, api.ErrForm)
			refused(x, []api.Field{field("a", "1"), field("b", "2"), f}, api.ErrForm)
		}
	}
}

func decoded(t *testing.T, x api.Table, b []byte, want []api.Field) {
	t.Helper()
	if l, e := Decode(x, b); !slices.Equal(l, want) || e != api.OK {
		t.Errorf("Decode(%v, %v) = %q, %d, want %q, OK", x, b, l, e, want)
	}
}

func undecoded(t *testing.T, x api.Table, b []byte, want api.Errno) {
	t.Helper()
	if l, e := Decode(x, b); len(l) > 0 || e != want {
		t.Errorf("Decode(%v, %v) = %q, %d, want none, %d", x, b, l, e, want)
	}
}

// three rows, with the numbers 6 to 8.
func three() api.Table { return state(160, 9, "a=1", "b=2", "c=3") }

// TestDecode: P15.4, fields of every kind, and ways to write them that Encode does not take.
func TestDecode(t *testing.T) {
	for _, c := range []struct {
		b    []byte
		want []api.Field
	}{
		{join(0), nil},
		{join(9), nil},
		{join(3), nil},
		{join(0, 192, 202), list(":path=/", ":authority=")},
		{join(0, 64, 1, "x", 74, 0), list(":path=x", ":authority=")},
		{join(0, 65, 1, "x", 66, 1, "y", 68, 0), list(":method=x", ":method=y", ":status=")},
		{join(0, 69, 1, "0"), list("age=0")},
		{join(0, 35, "age", 1, "0"), list("age=0")},
		{join(0, 33, "a", 0, 33, "a", 0), list("a=", "a=")},
		{join(0, 38, long(6), 0), list(long(6) + "=")},
		{join(0, 39, 0, long(7), 1, "="), list(long(7) + "==")},
		{join(0, 39, 13, long(20), 40, long(40)), list(long(20) + "=" + long(40))},
		// The highest bit of a Value's length says nothing, nor do more digits than the fewest.
		{join(0, 33, "a", 129, "x"), list("a=x")},
		{join(0, 64, 129, "x"), list(":path=x")},
		{join(0, 39, 141, 0, long(20), 1, "x"), list(long(20) + "=x")},
		{join(9, 128), list("c=3")},
		{join(9, 130, 129, 128, 130), list("a=1", "b=2", "c=3", "a=1")},
		{join(8, 129, 128), list("a=1", "b=2")},
		{join(7, 128), list("a=1")},
		{join(9, 130, 197, 69, 1, "7", 33, "d", 1, "4"), list("a=1", "age=0", "age=7", "d=4")},
		{join(0, 192, 193, 194, 195, 196, 197, 198, 199), Known()[:8]},
	} {
		decoded(t, three(), c.b, c.want)
	}
}

// TestDecodeNeed: P15.4, how much a section needs, which has all bits of the first byte, and waits.
func TestDecodeNeed(t *testing.T) {
	for _, put := range []int{0, 1, 3, 254, 255, 256, 1 << 40, api.MaxVar - 1, api.MaxVar} {
		for _, need := range []int{0, 1, 2, 3, 4, 253, 254, 255, 256, 257, put - 1, put, put + 1, api.MaxVar - 1, api.MaxVar} {
			b, e := prefix.Encode(0, 8, need)
			if e != api.OK {
				continue
			}
			if need <= put {
				decoded(t, state(160, put), b, nil)
				decoded(t, state(160, put), join(b, 197), list("age=0"))
				continue
			}
			undecoded(t, state(160, put), b, api.ErrWait)
			// What is wrong behind it is not told while it waits.
			undecoded(t, state(160, put), join(b, 0), api.ErrWait)
			undecoded(t, state(160, put), join(b, 33), api.ErrWait)
			undecoded(t, state(160, put), join(b, slices.Repeat([]byte{197}, 9)), api.ErrWait)
		}
	}
	undecoded(t, three(), nil, api.ErrShort)
	undecoded(t, three(), []byte{}, api.ErrShort)
	undecoded(t, three(), join(255), api.ErrShort)
	undecoded(t, three(), join(255, 128), api.ErrShort)
	undecoded(t, three(), join(255, slices.Repeat([]byte{128}, 9), 0), api.ErrSize)
	undecoded(t, three(), join(255, slices.Repeat([]byte{128}, 8), 64), api.ErrRange)
	decoded(t, state(160, 300), join(255, 128, 0, 197), list("age=0"))
}

// TestDecodeFirst: P15.4, every first byte of a field, with nothing behind it, and with enough.
func TestDecodeFirst(t *testing.T) {
	x := state(160, 200, "a=1", "b=2", "c=3") // numbers 197 to 199
	for first := range 256 {
		alone, behind := api.ErrKind, api.ErrKind
		var want []api.Field
		switch {
		case first >= 192 && first < 203:
			alone, behind, want = api.OK, api.OK, Known()[first-192:first-191]
		case first == 255:
			alone, behind = api.ErrShort, api.ErrNone
		case first >= 203:
			alone, behind = api.ErrNone, api.ErrNone
		case first == 191:
			alone, behind = api.ErrShort, api.ErrOld
		case first >= 131:
			alone, behind = api.ErrOld, api.ErrOld
		case first >= 128:
			alone, behind, want = api.OK, api.OK, list("c=3", "b=2", "a=1")[first-128:first-127]
		case first == 79:
			alone, behind = api.ErrShort, api.ErrNone
		case first >= 75 && first < 79:
			alone, behind = api.ErrNone, api.ErrNone
		case first >= 64 && first < 75, first >= 32 && first < 40:
			alone, behind = api.ErrShort, api.OK
		}
		if alone == api.OK {
			decoded(t, x, join(200, first), want)
			decoded(t, x, join(200, 197, first, 197), slices.Concat(list("age=0"), want, list("age=0")))
		} else {
			undecoded(t, x, join(200, first), alone)
			undecoded(t, x, join(200, 197, first), alone)
		}
		rest := join(200, first, 1, 0)
		if behind != api.OK {
			undecoded(t, x, rest, behind)
			undecoded(t, x, join(rest, slices.Repeat([]byte{197}, 9)), behind)
			continue
		}
		if first >= 64 && first < 75 {
			decoded(t, x, join(200, first, 1, "y", 197), []api.Field{field(Known()[first-64].Name, "y"), field("age", "0")})
		}
		if first > 32 && first < 39 {
			decoded(t, x, join(200, first, long(first-32), 1, "y", 197), []api.Field{field(long(first-32), "y"), field("age", "0")})
		}
	}
	decoded(t, x, join(200, 39, 0, long(7), 1, "y"), list(long(7)+"=y"))
}

// TestDecodeSize: P15.4, eight fields and no more, told ahead of what is wrong with the ninth.
func TestDecodeSize(t *testing.T) {
	for _, one := range [][]byte{join(197), join(128), join(69, 0), join(33, "a", 0)} {
		eight := join(9, bytes.Repeat(one, 8))
		if l, e := Decode(three(), eight); len(l) != 8 || e != api.OK {
			t.Errorf("Decode(%v) = %q, %d, want 8 fields", eight, l, e)
		}
		for _, ninth := range []int{0, 33, 40, 63, 64, 79, 80, 127, 128, 191, 197, 203, 255} {
			undecoded(t, three(), join(eight, ninth), api.ErrSize)
			undecoded(t, three(), join(eight, ninth, 0), api.ErrSize)
		}
	}
	// A field that may not be is told behind all others.
	undecoded(t, three(), join(0, bytes.Repeat(join(32, 0), 9)), api.ErrSize)
	undecoded(t, three(), join(0, bytes.Repeat(join(32, 0), 8)), api.ErrForm)
}

// TestDecodeReferred: P15.4, fields that are referred to below 0, or that went.
func TestDecodeReferred(t *testing.T) {
	for put := range 12 {
		for kept := range min(put, 4) + 1 {
			x := state(160, put, numbered(put)[put-kept:]...)
			for need := range put + 1 {
				for below := range 14 {
					b := join(need, 128+below)
					switch n := need - 1 - below; {
					case n < 0:
						undecoded(t, x, b, api.ErrRange)
					case n < put-kept:
						undecoded(t, x, b, api.ErrOld)
					default:
						decoded(t, x, b, []api.Field{field("n", string(rune('a'+n)))})
					}
				}
			}
		}
	}
	undecoded(t, three(), join(9, 191), api.ErrShort)
	undecoded(t, three(), join(9, 191, 128), api.ErrShort)
	undecoded(t, three(), join(9, 191, 0), api.ErrRange)
	undecoded(t, three(), join(9, 191, slices.Repeat([]byte{128}, 9), 0), api.ErrSize)
	undecoded(t, three(), join(9, 191, slices.Repeat([]byte{255}, 8), 127), api.ErrRange)
	most, _ := prefix.Encode(128, 6, api.MaxVar)
	undecoded(t, three(), join(9, most), api.ErrRange)
	all, _ := prefix.Encode(0, 8, api.MaxVar)
	undecoded(t, state(160, api.MaxVar, "a=1"), join(all, most), api.ErrRange)
	last, _ := prefix.Encode(128, 6, api.MaxVar-1)
	undecoded(t, state(160, api.MaxVar, "a=1"), join(all, last), api.ErrOld)
	decoded(t, state(160, api.MaxVar, "a=1"), join(all, 128), list("a=1"))
}

// numbered rows, so many: the value tells which one it is.
func numbered(n int) []string {
	var out []string
	for i := range n {
		out = append(out, "n="+string(rune('a'+i)))
	}
	return out
}

// TestDecodeNone: P15.4, numbers of no Known field are told as soon as they are read, whatever stands behind them.
func TestDecodeNone(t *testing.T) {
	for _, n := range []int{11, 12, 14, 15, 16, 62, 63, 64, 1 << 40, api.MaxVar} {
		alone, _ := prefix.Encode(192, 6, n)
		named, _ := prefix.Encode(64, 4, n)
		for _, b := range [][]byte{alone, named} {
			undecoded(t, three(), join(0, b), api.ErrNone)
			undecoded(t, three(), join(0, b, 127), api.ErrNone)
			undecoded(t, three(), join(0, b, 255, 255), api.ErrNone)
			undecoded(t, three(), join(0, b, 1, "x"), api.ErrNone)
		}
	}
	for _, first := range []int{255, 79} {
		undecoded(t, three(), join(0, first), api.ErrShort)
		undecoded(t, three(), join(0, first, 128), api.ErrShort)
		undecoded(t, three(), join(0, first, slices.Repeat([]byte{128}, 9), 0), api.ErrSize)
		undecoded(t, three(), join(0, first, slices.Repeat([]byte{128}, 8), 64), api.ErrRange)
	}
}

// TestDecodeTexts: P15.4, names and values cut short, or too long, one by one.
func TestDecodeTexts(t *testing.T) {
	whole := join(0, 39, 13, long(20), 40, long(40))
	for i := 2; i < len(whole); i++ {
		undecoded(t, three(), whole[:i], api.ErrShort)
	}
	decoded(t, three(), whole[:1], nil)
	named := join(0, 74, 40, long(40))
	for i := 2; i < len(named); i++ {
		undecoded(t, three(), named[:i], api.ErrShort)
	}
	for _, c := range []struct {
		b    []byte
		want api.Errno
	}{
		{join(39, 114), api.ErrSize},             // a Name of 121 bytes, though they are not there
		{join(39, 113), api.ErrShort},            // of 120
		{join(39, 113, long(120)), api.ErrShort}, // the Value is told ahead of the Name that may not be
		{join(39, 113, long(120), 0), api.ErrForm},
		{join(39, 113, long(120), 121), api.ErrSize},
		{join(39, 14, long(21), 0), api.ErrForm},
		{join(32), api.ErrShort},
		{join(32, 0), api.ErrForm},
		{join(32, 1, "x"), api.ErrForm},
		{join(32, 121), api.ErrSize},
		{join(33, "a", 41, long(41)), api.ErrForm},
		{join(33, "a", 120, long(120)), api.ErrForm},
		{join(33, "a", 120, long(119)), api.ErrShort},
		{join(33, "a", 121), api.ErrSize},
		{join(33, "a", 127), api.ErrShort},
		{join(33, "a", 255), api.ErrShort},
		{join(33, "a", 127, 0), api.ErrSize},
		{join(33, "a", 127, slices.Repeat([]byte{128}, 9), 0), api.ErrSize},
		{join(33, "a", 127, slices.Repeat([]byte{255}, 8), 127), api.ErrRange},
		{join(39, slices.Repeat([]byte{255}, 8), 127), api.ErrRange},
		{join(64, 41, long(41)), api.ErrForm},
		{join(64, 121), api.ErrSize},
		{join(64, 255), api.ErrShort},
		{join(64, 127, slices.Repeat([]byte{255}, 8), 127), api.ErrRange},
		// What may not be is told behind all that is wrong later.
		{join(32, 0, 0), api.ErrKind},
		{join(32, 0, 203), api.ErrNone},
		{join(32, 0, 128), api.ErrRange},
		{join(32, 0, 33), api.ErrShort},
		{join(32, 0, 197), api.ErrForm},
		// But what is wrong in other ways is told as it comes.
		{join(203, 0), api.ErrNone},
		{join(128, 203), api.ErrRange},
		{join(0, 203), api.ErrKind},
	} {
		undecoded(t, three(), join(0, c.b), c.want)
	}
}

// TestDecodeTable: P15.4, a table that may not be is told ahead of all.
func TestDecodeTable(t *testing.T) {
	for _, x := range badTables() {
		for _, b := range [][]byte{nil, {0}, {255}, {0, 0}, {0, 197}, {200, 1}} {
			undecoded(t, x, b, api.ErrState)
		}
	}
}

func applied(t *testing.T, x api.Table, b []byte, want api.Table, n int) {
	t.Helper()
	if got, used, e := Apply(x, b); !same(got, want) || used != n || e != api.OK {
		t.Errorf("Apply(%v, %v) = %v, %d, %d, want %v, %d, OK", x, b, got, used, e, want, n)
	}
}

func unapplied(t *testing.T, x api.Table, b []byte, want api.Errno) {
	t.Helper()
	if got, used, e := Apply(x, b); !same(got, api.Table{}) || used != 0 || e != want {
		t.Errorf("Apply(%v, %v) = %v, %d, %d, want nothing and %d", x, b, got, used, e, want)
	}
}

// TestApply: P15.5, insertions and rooms, one behind the other.
func TestApply(t *testing.T) {
	for _, c := range []struct {
		t    api.Table
		b    []byte
		want api.Table
	}{
		{three(), nil, three()},
		{three(), []byte{}, three()},
		{state(100, 0), join(65, "a", 1, "5"), state(100, 1, "a=5")},
		{state(100, 0), join(65, "a", 0), state(100, 1, "a=")},
		{state(100, 0), join(67, "age", 1, "0"), state(100, 1, "age=0")},
		{state(100, 0), join(65, "a", 129, "5"), state(100, 1, "a=5")},
		{state(160, 0), join(84, long(20), 40, long(40)), state(160, 1, long(20)+"="+long(40))},
		{state(68, 2, "a=1", "b=2"), join(65, "c", 1, "3"), state(68, 3, "b=2", "c=3")},
		{state(68, 2, "a=1", "b=2"), join(65, "c", 1, "3", 65, "c", 1, "3"), state(68, 4, "c=3", "c=3")},
		{state(34, 2, "a=1"), join(65, "a", 1, "1"), state(34, 3, "a=1")},
		{state(160, api.MaxVar-1), join(65, "a", 1, "1"), state(160, api.MaxVar, "a=1")},
		{three(), join(32), state(0, 9)},
		{three(), join(62), state(30, 9)},
		{three(), join(63, 0), state(31, 9)},
		{three(), join(63, 3), state(34, 9, "c=3")},
		{three(), join(63, 37), state(68, 9, "b=2", "c=3")},
		{three(), join(63, 129, 1), state(160, 9, "a=1", "b=2", "c=3")},
		{three(), join(63, 131, 128, 0), state(34, 9, "c=3")},
		{state(0, 9), join(63, 3, 65, "d", 1, "4", 63, 37, 65, "e", 1, "5", 32, 63, 129, 1, 65, "f", 1, "6"), state(160, 12, "f=6")},
	} {
		applied(t, c.t, c.b, c.want, len(c.b))
	}
	full := state(160, 4, "a=1", "b=2", "c=3", "d=4")
	applied(t, full, bytes.Repeat(join(65, "e", 1, "5"), 1000), state(160, 1004, "e=5", "e=5", "e=5", "e=5"), 4000)
}

// TestApplyShort: P15.5, what is not there whole is not applied, and applied once the rest of it is there.
func TestApplyShort(t *testing.T) {
	parts := [][]byte{
		join(63, 131, 128, 0), join(65, "a", 1, "1"), join(63, 129, 1),
		join(84, long(20), 40, long(40)), join(65, "b", 0), join(32), join(63, 69), join(66, "cc", 2, "33"),
	}
	all := bytes.Join(parts, nil)
	end, _, _ := modelApply(three(), all)
	for cut := range len(all) + 1 {
		x, at := three(), 0
		for _, p := range parts {
			if at+len(p) > cut {
				break
			}
			x, _, _ = modelApply(x, p)
			at += len(p)
		}
		applied(t, three(), all[:cut], x, at)
		applied(t, x, all[at:], end, len(all)-at)
	}
	for _, b := range [][]byte{
		{63}, {63, 128}, {63, 255, 255}, {64}, {65}, {65, 'a'}, {65, 'a', 1}, {65, 'a', 127}, {65, 'a', 255, 128}, {95}, {95, 255}, {94, 'a'},
		// A Name that may not be is told when its Value is there.
		join(64), join(64, 1), join(95, 89, long(120)), join(85, long(21)), join(85, long(21), 1), join(65, "a", 120, long(119)),
	} {
		applied(t, three(), b, three(), 0)
		applied(t, three(), join(32, b), state(0, 9), 1)
		applied(t, state(160, api.MaxVar), b, state(160, api.MaxVar), 0)
	}
}

// TestApplyRefuses: P15.5, every first byte, and errors one by one; what stands ahead of them is not answered.
func TestApplyRefuses(t *testing.T) {
	for first := range 256 {
		if first >= 32 && first <= 95 {
			continue
		}
		unapplied(t, three(), join(first), api.ErrKind)
		unapplied(t, three(), join(first, 1, 1), api.ErrKind)
		unapplied(t, three(), join(32, first), api.ErrKind)
		unapplied(t, three(), join(65, "a", 1, "1", first), api.ErrKind)
		applied(t, three(), join(65, "a", 2, first), three(), 0)
	}
	for _, c := range []struct {
		t    api.Table
		b    []byte
		want api.Errno
	}{
		{three(), join(64, 0), api.ErrForm},
		{three(), join(64, 1, "x"), api.ErrForm},
		{three(), join(85, long(21), 0), api.ErrForm},
		{three(), join(95, 89, long(120), 0), api.ErrForm},
		{three(), join(65, "a", 41, long(41)), api.ErrForm},
		{three(), join(65, "a", 120, long(120)), api.ErrForm},
		{three(), join(95, 90), api.ErrSize},
		{three(), join(95, 255, 1), api.ErrSize},
		{three(), join(65, "a", 121), api.ErrSize},
		{three(), join(65, "a", 249), api.ErrSize},
		{three(), join(95, slices.Repeat([]byte{128}, 9), 0), api.ErrSize},
		{three(), join(95, slices.Repeat([]byte{255}, 8), 127), api.ErrRange},
		{three(), join(65, "a", 127, slices.Repeat([]byte{128}, 9), 0), api.ErrSize},
		{three(), join(65, "a", 127, slices.Repeat([]byte{255}, 8), 127), api.ErrRange},
		{state(33, 0), join(65, "a", 1, "1"), api.ErrSize},
		{state(0, 0), join(65, "a", 0), api.ErrSize},
		{three(), join(32, 65, "a", 0), api.ErrSize},
		{state(0, 0), join(64, 0), api.ErrForm},
		{state(0, api.MaxVar), join(65, "a", 0), api.ErrSize},
		{state(160, api.MaxVar), join(64, 0), api.ErrForm},
		{state(160, api.MaxVar), join(65, "a", 0), api.ErrFull},
		{state(160, api.MaxVar-1), join(65, "a", 0, 65, "a", 0), api.ErrFull},
		{three(), join(63, 130, 1), api.ErrRange}, // a Room of 161
		{three(), join(63, 255, 1), api.ErrRange},
		{three(), join(63, slices.Repeat([]byte{255}, 7), 127), api.ErrRange},
		{three(), join(63, slices.Repeat([]byte{255}, 8), 127), api.ErrRange},
		{three(), join(63, slices.Repeat([]byte{128}, 9), 0), api.ErrSize},
		// One by one: the first wrong one is told.
		{three(), join(64, 0, 0), api.ErrForm},
		{three(), join(0, 64, 0), api.ErrKind},
		{three(), join(63, 130, 1, 0), api.ErrRange},
		{three(), join(65, "a", 0, 64, 0, 65), api.ErrForm},
	} {
		unapplied(t, c.t, c.b, c.want)
		unapplied(t, c.t, join(c.b, 65), c.want)
	}
	for _, x := range badTables() {
		for _, b := range [][]byte{nil, {0}, {32}, {65}, {64, 0}, {65, 'a', 0}} {
			unapplied(t, x, b, api.ErrState)
		}
	}
}

// names and values of which fields by chance are made; some are Known ones', and some may not be.
var (
	someNames  = []string{"a", "a", "b", "c", "age", ":path", ":method", ":status", "cookie", "seven-7", long(20)}
	someValues = []string{"", "0", "1", "2", "/", "GET", "POST", "200", "404", long(40)}
)

func pick[T any](dice *rand.Rand, l []T) T { return l[dice.IntN(len(l))] }

// someTable by chance.
func someTable(dice *rand.Rand) api.Table {
	x := api.Table{Room: dice.IntN(api.MaxTable + 1), Put: pick(dice, []int{0, 1, 60, 62, 63, 64, 200, 253, 254, 255, 256, 1 << 30, api.MaxVar - 3})}
	for range dice.IntN(6) {
		if then, e := table.Insert(x, field(pick(dice, someNames), pick(dice, someValues))); e == api.OK {
			x = then
		}
	}
	return x
}

// someFields by chance.
func someFields(dice *rand.Rand) []api.Field {
	l := make([]api.Field, dice.IntN(api.MaxFields+1))
	for i := range l {
		l[i] = field(pick(dice, someNames), pick(dice, someValues))
	}
	return l
}

// TestAgain: P15.3 to P15.5, what is told ahead leads another table to where this one is, and the section is read there as it was.
func TestAgain(t *testing.T) {
	dice := rand.New(rand.NewPCG(15, 1))
	for range 60000 {
		x, l, ahead := someTable(dice), someFields(dice), dice.IntN(3) > 0
		then, told, b, e := Encode(x, l, ahead)
		if e != api.OK {
			t.Fatalf("Encode(%v, %q) = %d", x, l, e)
		}
		if !ahead && (len(told) > 0 || !same(then, x)) {
			t.Fatalf("Encode(%v, %q) tells %v ahead, though it may not", x, l, told)
		}
		if slots := len(then.Rows) - len(x.Rows); slots != then.Put-x.Put || !slices.Equal(then.Rows[:len(x.Rows)], x.Rows) {
			t.Fatalf("Encode(%v, %q): rows went: %v", x, l, then)
		}
		applied(t, x, told, then, len(told))
		decoded(t, then, b, l)
		need, _, _ := prefix.Decode(b, 8)
		if need > x.Put {
			undecoded(t, x, b, api.ErrWait)
		} else {
			decoded(t, x, b, l)
		}
		if want := lastOf(then, l); want != need {
			t.Fatalf("Encode(%v, %q) = %v needs %d, want %d", x, l, b, need, want)
		}
	}
}

// lastOf fields that are not Known, and that the table has: one more than the greatest of their numbers.
func lastOf(x api.Table, l []api.Field) int {
	most := 0
	for _, f := range l {
		if slices.Contains(Known(), f) {
			continue
		}
		for i, r := range x.Rows {
			if r == f {
				most = max(most, x.Put-len(x.Rows)+i+1)
			}
		}
	}
	return most
}

// reading of bytes, part by part, by a model that keeps what is left and the first error.
type reading struct {
	left []byte
	e    api.Errno
}

func (r *reading) number(width int) int {
	if r.e != api.OK {
		return 0
	}
	n, used, e := prefix.Decode(r.left, width)
	r.left, r.e = r.left[used:], e
	return n
}

func (r *reading) text(width int) string {
	n := r.number(width)
	switch {
	case r.e != api.OK:
		return ""
	case n > 120:
		r.e = api.ErrSize
	case n > len(r.left):
		r.e = api.ErrShort
	}
	if r.e != api.OK {
		return ""
	}
	s := string(r.left[:n])
	r.left = r.left[n:]
	return s
}

func (r *reading) known(width int) api.Field {
	n := r.number(width)
	if r.e == api.OK && n > 10 {
		r.e = api.ErrNone
	}
	if r.e != api.OK {
		return api.Field{}
	}
	return Known()[n]
}

// modelDecode is Decode, told anew (P15.4).
func modelDecode(x api.Table, b []byte) ([]api.Field, api.Errno) {
	r := &reading{left: b}
	need := r.number(8)
	if r.e == api.OK && need > x.Put {
		return nil, api.ErrWait
	}
	var l []api.Field
	for r.e == api.OK && len(r.left) > 0 {
		var f api.Field
		switch first := r.left[0]; {
		case len(l) == 8:
			return nil, api.ErrSize
		case first/64 == 3:
			f = r.known(6)
		case first/64 == 2:
			n := need - 1 - r.number(6)
			if r.e != api.OK {
				return nil, r.e
			}
			if n < 0 {
				return nil, api.ErrRange
			}
			f, r.e = table.Get(x, n)
		case first/16 == 4:
			f.Name = r.known(4).Name
			f.Value = r.text(7)
		case first/8 == 4:
			f.Name = r.text(3)
			f.Value = r.text(7)
		default:
			return nil, api.ErrKind
		}
		l = append(l, f)
	}
	if r.e != api.OK {
		return nil, r.e
	}
	return l, Check(l)
}

// modelApply is Apply, told anew (P15.5).
func modelApply(x api.Table, b []byte) (api.Table, int, api.Errno) {
	r := &reading{left: b}
	for len(r.left) > 0 {
		used := len(b) - len(r.left)
		switch r.left[0] / 32 {
		case 1:
			if room := r.number(5); r.e == api.OK {
				if room > 160 {
					return api.Table{}, 0, api.ErrRange
				}
				x, _ = table.Resize(x, room)
			}
		case 2:
			f := api.Field{Name: r.text(5)}
			f.Value = r.text(7)
			if r.e == api.OK {
				x, r.e = table.Insert(x, f)
			}
		default:
			r.e = api.ErrKind
		}
		switch r.e {
		case api.ErrShort:
			return x, used, api.OK
		case api.OK:
		default:
			return api.Table{}, 0, r.e
		}
	}
	return x, len(b), api.OK
}

// someBytes by chance: good parts, spoilt ones, and ends cut off.
func someBytes(dice *rand.Rand, x api.Table, sections bool) []byte {
	then, told, b, _ := Encode(x, someFields(dice), dice.IntN(2) > 0)
	if !sections {
		b = told
		for range dice.IntN(3) {
			room, _ := prefix.Encode(32, 5, dice.IntN(170))
			_, more, _, _ := Encode(then, someFields(dice), true)
			b = slices.Concat(b, room, more)
		}
	}
	for range dice.IntN(3) {
		if len(b) > 0 {
			b[dice.IntN(len(b))] = pick(dice, []byte{0, 1, 32, 33, 39, 64, 79, 95, 96, 120, 121, 127, 128, 130, 191, 192, 202, 203, 255, byte(dice.IntN(256))})
		}
	}
	if dice.IntN(3) == 0 {
		b = b[:dice.IntN(len(b)+1)]
	}
	if dice.IntN(3) == 0 {
		for range dice.IntN(6) {
			b = append(b, byte(dice.IntN(256)))
		}
	}
	return b
}

// TestChance: P15.4 and P15.5, bytes by chance, and all sections of three bytes, held against a model; nothing handed in is changed.
func TestChance(t *testing.T) {
	dice := rand.New(rand.NewPCG(15, 2))
	seen := map[api.Errno]int{}
	tryDecode := func(x api.Table, b []byte) {
		want, e := modelDecode(x, b)
		seen[e]++
		if e != api.OK {
			undecoded(t, x, b, e)
		} else {
			decoded(t, x, b, want)
		}
	}
	tryApply := func(x api.Table, b []byte) {
		want, n, e := modelApply(x, b)
		if e != api.OK {
			unapplied(t, x, b, e)
		} else {
			applied(t, x, b, want, n)
		}
	}
	for range 100000 {
		x := someTable(dice)
		for _, sections := range []bool{true, false} {
			b := someBytes(dice, x, sections)
			keptTable, keptBytes := clone(x), bytes.Clone(b)
			tryDecode(x, b)
			tryApply(x, b)
			if !same(x, keptTable) || !bytes.Equal(b, keptBytes) {
				t.Fatalf("%v or %v was changed", keptTable, keptBytes)
			}
		}
	}
	for word := range 1 << 16 {
		tryDecode(three(), join(9, word>>8, word))
		tryApply(three(), join(word>>8, word))
	}
	for _, e := range []api.Errno{api.OK, api.ErrSize, api.ErrKind, api.ErrForm, api.ErrShort, api.ErrNone, api.ErrRange, api.ErrWait, api.ErrOld} {
		if seen[e] == 0 {
			t.Errorf("no section by chance was answered by %d", e)
		}
	}
}

// roomy list: with spare room behind it, in which something stands.
func roomy(l []api.Field) []api.Field {
	return append(slices.Clone(l), list("spare=1", "spare=2", "spare=3")...)[:len(l)]
}

// spare room of a list.
func spare(l []api.Field) []api.Field { return slices.Clone(l[len(l):cap(l)]) }

// TestEncodeMemory: P15.3, nothing that is handed in is changed, or shared with what is answered.
func TestEncodeMemory(t *testing.T) {
	for _, l := range [][]api.Field{nil, list("a=1"), list("d=4"), list("age=0", "d=4", "e="+long(40))} {
		for _, ahead := range []bool{false, true} {
			x, in := three(), roomy(l)
			x.Rows = roomy(x.Rows)
			rowsSpare, inSpare := spare(x.Rows), spare(in)
			then, told, b, _ := Encode(x, in, ahead)
			again, told2, b2, _ := Encode(x, in, ahead)
			clear(then.Rows[:cap(then.Rows)])
			clear(told[:cap(told)])
			if !bytes.Equal(b, b2) {
				t.Errorf("Encode(%q): the section shares memory with what is told ahead", l)
			}
			want := bytes.Clone(b2)
			clear(b[:cap(b)])
			if !same(x, three()) || !slices.Equal(in, l) || !slices.Equal(spare(x.Rows), rowsSpare) || !slices.Equal(spare(in), inSpare) {
				t.Errorf("Encode(%q) changed what was handed in, or shares it: %v, %q", l, x, in)
			}
			if !bytes.Equal(b2, want) {
				t.Errorf("Encode(%q): two answers share memory", l)
			}
			applied(t, three(), told2, again, len(told2))
			clear(x.Rows)
			clear(in)
			decoded(t, again, b2, l)
		}
	}
}

// TestReadMemory: P15.4 and P15.5, nothing that is handed in is changed, or shared with what is answered.
func TestReadMemory(t *testing.T) {
	for _, b := range [][]byte{join(9, 128, 130, 197), join(9, 69, 1, "7", 33, "d", 1, "4"), join(0)} {
		x := three()
		x.Rows = roomy(x.Rows)
		kept := bytes.Clone(b)
		first, _ := Decode(x, b)
		second, _ := Decode(x, b)
		want := slices.Clone(second)
		clear(first[:cap(first)])
		if !slices.Equal(second, want) || !same(x, three()) || !bytes.Equal(b, kept) {
			t.Errorf("Decode(%v) changed what was handed in, or shares it", kept)
		}
		clear(x.Rows)
		clear(b)
		if !slices.Equal(second, want) {
			t.Errorf("Decode(%v): the answer shares what was handed in", kept)
		}
	}
	for _, b := range [][]byte{nil, {65}, join(65, "d", 1, "4"), join(63, 129, 1), join(63, 37), join(63, 129, 1, 65, "d")} {
		x := three()
		x.Rows = roomy(x.Rows)
		rowsSpare, kept := spare(x.Rows), bytes.Clone(b)
		first, _, _ := Apply(x, b)
		second, _, _ := Apply(x, b)
		want := clone(second)
		clear(first.Rows[:cap(first.Rows)])
		if !same(second, want) || !same(x, three()) || !slices.Equal(spare(x.Rows), rowsSpare) || !bytes.Equal(b, kept) {
			t.Errorf("Apply(%v) changed what was handed in, or shares it", kept)
		}
		clear(x.Rows[:cap(x.Rows)])
		clear(b)
		if !same(second, want) {
			t.Errorf("Apply(%v): the answer shares what was handed in", kept)
		}
	}
}
