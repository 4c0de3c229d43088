package conn

import (
	"bytes"
	"math"
	"reflect"
	"testing"

	"spillway/api"
)

// mustBe ends a test whose own preparations are wrong.
func mustBe(t *testing.T, e api.Errno) {
	t.Helper()
	if e != api.OK {
		t.Fatalf("refused: %d", e)
	}
}

// begun is an end that begins at 0.
func begun(client bool) api.Conn {
	c, _ := Begin(client, 0)
	return c
}

// changed is an end that is altered by hand.
func changed(c api.Conn, by func(c *api.Conn)) api.Conn {
	c = deep(c)
	by(&c)
	return c
}

// fresh lane, as it is opened.
func laneOf(id int) api.Lane {
	return api.Lane{Id: id, In: api.Gather{Final: -1, Window: api.MaxWindow}, Out: api.Sender{Max: api.MaxWindow}}
}

// withLanes is an end of which so many lanes were opened, and none went.
func withLanes(client bool, n int) api.Conn {
	return changed(begun(client), func(c *api.Conn) {
		for id := range n {
			c.Lanes = append(c.Lanes, laneOf(id))
		}
		c.Opened = n
	})
}

func text(n int) []byte {
	b := make([]byte, n)
	for i := range b {
		b[i] = byte(i*7 + i/256)
	}
	return b
}

// deep is anything in new memory; lists without elements are nil in it, so that they are all alike.
func deep[T any](x T) T {
	return deepValue(reflect.ValueOf(x)).Interface().(T)
}

func deepValue(v reflect.Value) reflect.Value {
	out := reflect.New(v.Type()).Elem()
	switch v.Kind() {
	case reflect.Struct:
		for i := range v.NumField() {
			out.Field(i).Set(deepValue(v.Field(i)))
		}
	case reflect.Array:
		for i := range v.Len() {
			out.Index(i).Set(deepValue(v.Index(i)))
		}
	case reflect.Slice:
		if v.Len() > 0 {
			out.Set(reflect.MakeSlice(v.Type(), v.Len(), v.Len()))
		}
		for i := range v.Len() {
			out.Index(i).Set(deepValue(v.Index(i)))
		}
	default:
		out.Set(v)
	}
	return out
}

func same[T any](a, b T) bool {
	return reflect.DeepEqual(deep(a), deep(b))
}

// room of a list, from its first byte to behind its last one, spare room too.
type room struct{ from, to uintptr }

// rooms of all lists in a thing.
func rooms(v reflect.Value) []room {
	var out []room
	switch v.Kind() {
	case reflect.Struct:
		for i := range v.NumField() {
			out = append(out, rooms(v.Field(i))...)
		}
	case reflect.Array, reflect.Slice:
		if v.Kind() == reflect.Slice && v.Cap() > 0 {
			from := v.Pointer()
			out = append(out, room{from, from + uintptr(v.Cap())*v.Type().Elem().Size()})
		}
		for i := range v.Len() {
			out = append(out, rooms(v.Index(i))...)
		}
	}
	return out
}

// sharing tells whether any two lists in these things share memory.
func sharing(l ...any) bool {
	var all []room
	for _, x := range l {
		all = append(all, rooms(reflect.ValueOf(x))...)
	}
	for i, a := range all {
		for _, b := range all[:i] {
			if a.from < b.to && b.from < a.to {
				return true
			}
		}
	}
	return false
}

// outside are numbers that are not from 0 to a top.
func outside(top int) []int {
	return []int{math.MinInt, math.MinInt + 1, -api.MaxVar, -2, -1, top + 1, top + 2, math.MaxInt - 1, math.MaxInt}
}

// full is an end with something in all of its lists.
func full(client bool) api.Conn {
	return changed(withLanes(client, 3), func(c *api.Conn) {
		c.Ids, c.Grant = 4, 4
		c.Space = api.Space{Next: 12, Top: 5, Heard: []api.Range{{Lo: 1, Hi: 2}, {Lo: 5, Hi: 5}}, Skip: []int{2, 6}, Sent: []api.Parcel{
			{Number: 7, Time: 3, Size: 90, Frames: []api.Frame{{Kind: api.Ack, Ranges: []api.Range{{Lo: 4, Hi: 4}, {Lo: 1, Hi: 2}}}, {Kind: api.Stream, Id: 1, Data: text(3)}}},
			{Number: 9, Time: 5, Size: 80, Frames: []api.Frame{{Kind: api.Stream, Id: 1, Off: 3, Data: text(4)}, {Kind: api.MaxOf, Id: 2, Off: 300}, {Kind: api.Token, Data: text(9)}}},
		}}
		c.Pace.Flying = 170
		c.Flow.Used, c.Credit.Used = 20, 7
		c.Lanes[0].In = api.Gather{Done: 5, Final: -1, Window: 300, Held: []api.Piece{{Off: 7, Data: text(3)}, {Off: 12, Data: text(2)}}}
		c.Lanes[0].Read = text(5)
		c.Lanes[1].Out = api.Sender{Data: text(20), Fin: true, Next: 7, Max: 300, Lost: []api.Range{{Lo: 3, Hi: 3}}, Acked: []api.Range{{Lo: 0, Hi: 1}, {Lo: 5, Hi: 5}}}
		c.Queue = []api.Frame{{Kind: api.Hello, Off: 4, Data: text(6)}, {Kind: api.Response, Code: 8}}
		c.Owes, c.Last, c.Resets = true, 6, 2
	})
}

// goodEnds may be, at all bounds.
func goodEnds() []api.Conn {
	out := []api.Conn{begun(true), begun(false), withLanes(true, 4), withLanes(false, 4), full(true), full(false)}
	for _, by := range []func(c *api.Conn){
		func(c *api.Conn) { c.Ids = 3 },
		func(c *api.Conn) { c.Ids, c.Grant = 3, 0 },
		func(c *api.Conn) { c.Ids, c.Grant = 0, 3 },
		func(c *api.Conn) { c.Ids, c.Grant, c.Opened = api.MaxVar, 0, api.MaxVar },
		func(c *api.Conn) { c.Ids, c.Grant, c.Opened = 0, api.MaxVar, api.MaxVar },
		func(c *api.Conn) {
			c.Ids, c.Grant, c.Opened = api.MaxVar, api.MaxVar, api.MaxVar
			c.Lanes = []api.Lane{laneOf(api.MaxVar - 1)}
		},
		func(c *api.Conn) { c.Lanes = nil },
		func(c *api.Conn) { c.Lanes = c.Lanes[1:] },
		func(c *api.Conn) { c.Lanes[0].Read = text(800) },
		func(c *api.Conn) { c.Lanes[2].Over, c.Lanes[1].Cut = true, true },
		func(c *api.Conn) { c.Queue = queueOf(12) },
		func(c *api.Conn) { c.Last = 0 },
		func(c *api.Conn) { c.Last = api.MaxTime },
		func(c *api.Conn) { c.Resets = 0 },
		func(c *api.Conn) { c.Resets = 4 },
		func(c *api.Conn) { c.Code = math.MinInt },
		func(c *api.Conn) { c.Closed, c.Code = true, math.MaxInt },
		func(c *api.Conn) { c.Space.Sent[0].Frames = nil },
		func(c *api.Conn) { c.Space.Sent[0].Frames = queueOf(40) },
		func(c *api.Conn) { c.Flow = api.Flow{}; c.Credit = api.Flow{Max: api.MaxVar, Used: api.MaxVar} },
	} {
		out = append(out, changed(full(true), by), changed(full(false), by))
	}
	return out
}

// queueOf so many frames, of which each waits for itself.
func queueOf(n int) []api.Frame {
	var l []api.Frame
	for i := range n {
		l = append(l, api.Frame{Kind: api.Response, Code: i})
	}
	return l
}

// breaks are what makes an end that may be one that may not.
func breaks() []func(c *api.Conn) {
	out := []func(c *api.Conn){
		func(c *api.Conn) { c.Space = api.Space{} }, // Top is 0, which was never sent
		func(c *api.Conn) { c.Space.Next = -1 },
		func(c *api.Conn) { c.Space.Sent[1].Size = api.MaxPacket + 1 },
		func(c *api.Conn) { c.Pace = api.Pace{} },
		func(c *api.Conn) { c.Pace.Flying = -1 },
		func(c *api.Conn) { c.Flow.Used = c.Flow.Max + 1 },
		func(c *api.Conn) { c.Credit.Used = -1 },
		func(c *api.Conn) { c.Opened = 2 },
		func(c *api.Conn) { c.Opened = 5 },
		func(c *api.Conn) { c.Opened, c.Ids = 6, 5 },
		func(c *api.Conn) { c.Opened, c.Grant = 6, 5 },
		func(c *api.Conn) { c.Lanes = append(c.Lanes, laneOf(3)); c.Opened = 3 },
		func(c *api.Conn) {
			c.Lanes = append(c.Lanes, laneOf(3), laneOf(4))
			c.Opened, c.Ids = 5, 5
		},
		func(c *api.Conn) { c.Lanes[0].Id = 1 },
		func(c *api.Conn) { c.Lanes[0].Id = -1 },
		func(c *api.Conn) { c.Lanes[0], c.Lanes[1] = c.Lanes[1], c.Lanes[0] },
		func(c *api.Conn) { c.Lanes[2].In = api.Gather{Done: 1} },
		func(c *api.Conn) { c.Lanes[2].In.Final = -2 },
		func(c *api.Conn) { c.Lanes[2].Out.Next = 1 },
		func(c *api.Conn) { c.Lanes[1].Out.Ended = true },
		func(c *api.Conn) { c.Lanes[1].Read = text(801) },
		func(c *api.Conn) { c.Queue = queueOf(13) },
		func(c *api.Conn) { c.Queue[1].Kind = 3 },
		func(c *api.Conn) { c.Queue[1].Id = 1 },
		func(c *api.Conn) { c.Queue[0].Data = text(api.MaxData + 1) },
		func(c *api.Conn) { c.Space.Sent[1].Frames[2].Fin = true },
		func(c *api.Conn) { c.Space.Sent[0].Frames[0].Ranges = nil },
		func(c *api.Conn) { c.Space.Sent[0].Frames = append(c.Space.Sent[0].Frames, api.Frame{Kind: 8, Id: -1}) },
	}
	for i := range outside(0) {
		out = append(out,
			func(c *api.Conn) { c.Ids = outside(api.MaxVar)[i] },
			func(c *api.Conn) { c.Grant = outside(api.MaxVar)[i] },
			func(c *api.Conn) { c.Opened = outside(4)[i] },
			func(c *api.Conn) { c.Last = outside(api.MaxTime)[i] },
			func(c *api.Conn) { c.Resets = outside(api.MaxResets)[i] })
	}
	return out
}

// call of this layer, with a time (or a number of a lane) that suits it.
type call struct {
	name string
	do   func(c api.Conn) ([]any, api.Errno)
}

// callsAt are all calls that take an end, but Check and Fresh.
func callsAt(now, id int, b []byte, l []api.Frame) []call {
	return []call{
		{"Open", func(c api.Conn) ([]any, api.Errno) { d, n, e := Open(c); return []any{d, n}, e }},
		{"Write", func(c api.Conn) ([]any, api.Errno) { d, e := Write(c, id, b, true); return []any{d}, e }},
		{"Hear", func(c api.Conn) ([]any, api.Errno) { d, ok, e := Hear(c, now, 77, l); return []any{d, ok}, e }},
		{"Retire", func(c api.Conn) ([]any, api.Errno) { d, e := Retire(c, id); return []any{d}, e }},
		{"Flush", func(c api.Conn) ([]any, api.Errno) { d, n, k, e := Flush(c, now); return []any{d, n, k}, e }},
		{"Tick", func(c api.Conn) ([]any, api.Errno) { d, e := Tick(c, now); return []any{d}, e }},
	}
}

// nothing tells whether all results are their zero values.
func nothing(l []any) bool {
	for _, x := range l {
		v := reflect.ValueOf(x)
		if v.Kind() == reflect.Slice && v.Len() == 0 {
			continue
		}
		if !deepValue(v).IsZero() {
			return false
		}
	}
	return true
}

// TestBegin: P18.2, an end that begins.
func TestBegin(t *testing.T) {
	for _, now := range []int{0, 1, 59, api.MaxTime - 1, api.MaxTime} {
		want := api.Conn{Space: api.Space{Top: -1}, Pace: api.Pace{Window: 400, Since: -1}, Flow: api.Flow{Max: 700}, Credit: api.Flow{Max: 700}, Grant: 4, Last: now}
		if c, e := Begin(false, now); !same(c, want) || e != api.OK || Check(c) != api.OK {
			t.Errorf("Begin(false, %d) = %v, %d, want %v", now, c, e, want)
		}
		want.Client, want.Ids, want.Grant = true, 4, 0
		if c, e := Begin(true, now); !same(c, want) || e != api.OK || Check(c) != api.OK {
			t.Errorf("Begin(true, %d) = %v, %d, want %v", now, c, e, want)
		}
	}
	for _, now := range outside(api.MaxTime) {
		for _, client := range []bool{true, false} {
			if c, e := Begin(client, now); !same(c, api.Conn{}) || e != api.ErrRange {
				t.Errorf("Begin(%v, %d) = %v, %d, want ErrRange", client, now, c, e)
			}
		}
	}
}

// TestCheck: P18.1, ends that may be, and such that may not; all calls refuse those.
func TestCheck(t *testing.T) {
	for i, c := range goodEnds() {
		if e := Check(c); e != api.OK {
			t.Errorf("good end %d: Check = %d: %+v", i, e, c)
		}
	}
	for i, by := range breaks() {
		for _, closed := range []bool{true, false} {
			c := changed(full(i%2 == 0), by)
			c.Closed = closed
			if e := Check(c); e != api.ErrState {
				t.Errorf("bad end %d: Check = %d, want ErrState", i, e)
			}
			// What Check refuses is told ahead of all else.
			for _, k := range callsAt(-1, 9, text(900), make([]api.Frame, 20)) {
				if out, e := k.do(c); e != api.ErrState || !nothing(out) {
					t.Errorf("bad end %d: %s = %v, %d, want ErrState", i, k.name, out, e)
				}
			}
		}
	}
	if e := Check(api.Conn{}); e != api.ErrState {
		t.Errorf("Check of nothing = %d, want ErrState", e)
	}
}

// TestFresh: P18.3, the same in new memory, whatever it is.
func TestFresh(t *testing.T) {
	l := append(goodEnds(), api.Conn{}, api.Conn{Queue: make([]api.Frame, 30), Lanes: make([]api.Lane, 9), Opened: -4})
	for i, by := range breaks() {
		l = append(l, changed(full(i%2 == 0), by))
	}
	for i, c := range l {
		before := deep(c)
		d := Fresh(c)
		if !same(d, before) || !same(c, before) || sharing(c, d) {
			t.Errorf("end %d: Fresh(%v) = %v", i, c, d)
		}
	}
}

// TestOpen: P18.4, lanes of a client, one by one.
func TestOpen(t *testing.T) {
	c := begun(true)
	for id := range 4 {
		want := changed(c, func(c *api.Conn) { c.Opened = id + 1; c.Lanes = append(c.Lanes, laneOf(id)) })
		d, got, e := Open(c)
		if !same(d, want) || got != id || e != api.OK {
			t.Fatalf("Open = %v, %d, %d, want %v, %d", d, got, e, want, id)
		}
		c = d
	}
	for _, k := range []struct {
		c  api.Conn
		id int
		e  api.Errno
	}{
		{c, 0, api.ErrFull},
		// There is room, but no more may be opened.
		{changed(c, func(c *api.Conn) { c.Lanes = c.Lanes[1:] }), 0, api.ErrFull},
		// More may be opened, but there is no room.
		{changed(c, func(c *api.Conn) { c.Ids = 5 }), 0, api.ErrFull},
		{changed(c, func(c *api.Conn) { c.Ids = 5; c.Lanes = c.Lanes[1:] }), 4, api.OK},
		{changed(c, func(c *api.Conn) { c.Ids = 5; c.Lanes = nil }), 4, api.OK},
		// A grant to the other one does not let a client open.
		{changed(c, func(c *api.Conn) { c.Ids, c.Grant, c.Opened = 4, 9, 7; c.Lanes = nil }), 0, api.ErrFull},
		{changed(c, func(c *api.Conn) { c.Ids, c.Opened, c.Lanes = api.MaxVar, api.MaxVar-1, nil }), api.MaxVar - 1, api.OK},
		{changed(c, func(c *api.Conn) { c.Ids, c.Opened, c.Lanes = api.MaxVar, api.MaxVar, nil }), 0, api.ErrFull},
		{begun(false), 0, api.ErrKind},
		{changed(begun(false), func(c *api.Conn) { c.Ids = 4 }), 0, api.ErrKind},
		{changed(begun(false), func(c *api.Conn) { c.Closed = true }), 0, api.ErrDone},
		{changed(begun(true), func(c *api.Conn) { c.Closed = true }), 0, api.ErrDone},
		{changed(c, func(c *api.Conn) { c.Closed = true }), 0, api.ErrDone},
	} {
		d, id, e := Open(k.c)
		if id != k.id || e != k.e || e != api.OK && !same(d, api.Conn{}) {
			t.Errorf("Open(%v) = %v, %d, %d, want %d, %d", k.c, d, id, e, k.id, k.e)
		}
		if e == api.OK && (d.Opened != k.id+1 || !same(d.Lanes[len(d.Lanes)-1], laneOf(k.id)) || len(d.Lanes) != len(k.c.Lanes)+1) {
			t.Errorf("Open(%v) = %v", k.c, d)
		}
	}
}

// TestWrite: P18.5, bytes on a lane.
func TestWrite(t *testing.T) {
	for _, client := range []bool{true, false} {
		c := withLanes(client, 3)
		d, e := Write(c, 1, []byte("abc"), false)
		want := changed(c, func(c *api.Conn) { c.Lanes[1].Out.Data = []byte("abc") })
		if !same(d, want) || e != api.OK {
			t.Fatalf("Write = %v, %d, want %v", d, e, want)
		}
		d, e = Write(d, 1, []byte("de"), true)
		want.Lanes[1].Out.Data, want.Lanes[1].Out.Fin = []byte("abcde"), true
		if !same(d, want) || e != api.OK {
			t.Fatalf("Write = %v, %d, want %v", d, e, want)
		}
		gone := changed(c, func(c *api.Conn) { c.Lanes = c.Lanes[1:] })
		closed := changed(d, func(c *api.Conn) { c.Closed = true })
		for _, k := range []struct {
			c   api.Conn
			id  int
			n   int
			fin bool
			e   api.Errno
		}{
			{d, 1, 0, false, api.ErrDone},
			{d, 1, 700, true, api.ErrDone},
			{d, 0, 600, true, api.OK},
			{d, 2, 0, true, api.OK},
			{d, 2, 600, false, api.OK},
			{d, 2, 601, false, api.ErrFull},
			{d, 3, 0, false, api.ErrNone},
			{d, -1, 700, false, api.ErrNone},
			{d, math.MinInt, 0, false, api.ErrNone},
			{d, math.MaxInt, 0, false, api.ErrNone},
			{gone, 0, 0, false, api.ErrNone},
			{gone, 1, 9, false, api.OK},
			{closed, 0, 0, false, api.ErrDone},
			{closed, 7, 0, false, api.ErrDone},
			{closed, 2, 601, false, api.ErrDone},
		} {
			got, e := Write(k.c, k.id, text(k.n), k.fin)
			want := api.Conn{}
			if k.e == api.OK {
				want = changed(k.c, func(c *api.Conn) {
					l := &c.Lanes[len(c.Lanes)-3+k.id]
					l.Out.Data, l.Out.Fin = text(k.n), k.fin
				})
			}
			if k.e == api.OK && len(k.c.Lanes) == 2 {
				want = changed(k.c, func(c *api.Conn) { c.Lanes[0].Out.Data = text(k.n) })
			}
			if !same(got, want) || e != k.e {
				t.Errorf("Write(%v, %d, %d bytes, %v) = %v, %d, want %d", k.c, k.id, k.n, k.fin, got, e, k.e)
			}
		}
	}
}

// overLane is a lane that is over both ways.
func overLane(id int) api.Lane {
	l := laneOf(id)
	l.Over = true
	l.In = api.Gather{Done: 3, Final: 3, Window: api.MaxWindow}
	l.Read = []byte("abc")
	l.Out = api.Sender{Data: text(4), Fin: true, Next: 4, Max: api.MaxWindow, Acked: []api.Range{{Lo: 0, Hi: 3}}, Over: true}
	return l
}

// TestRetire: P18.7, lanes that are over both ways go, and others may be opened for them.
func TestRetire(t *testing.T) {
	told := func(grant int) []api.Frame { return []api.Frame{{Kind: api.MaxIds, Off: grant}} }
	for id := range 4 {
		for _, client := range []bool{true, false} {
			c := changed(withLanes(client, 4), func(c *api.Conn) { c.Lanes[id] = overLane(id) })
			want := changed(c, func(c *api.Conn) {
				c.Lanes = append(c.Lanes[:id], c.Lanes[id+1:]...)
				if !client {
					c.Grant, c.Queue = 5, told(5)
				}
			})
			if d, e := Retire(c, id); !same(d, want) || e != api.OK {
				t.Errorf("Retire(%v, %d) = %v, %d, want %v", c, id, d, e, want)
			}
			for _, other := range []int{0, 1, 2, 3, 4, -1, math.MaxInt, math.MinInt} {
				wantE := api.ErrNone
				if other >= 0 && other < 4 {
					wantE = api.ErrState
				}
				if other == id {
					continue
				}
				if d, e := Retire(c, other); !same(d, api.Conn{}) || e != wantE {
					t.Errorf("Retire(%v, %d) = %v, %d, want %d", c, other, d, e, wantE)
				}
			}
		}
	}
	one := changed(withLanes(false, 1), func(c *api.Conn) { c.Lanes[0] = overLane(0) })
	for _, k := range []struct {
		by    func(c *api.Conn)
		e     api.Errno
		queue []api.Frame
		grant int
	}{
		{func(c *api.Conn) { c.Lanes[0].Over = false }, api.ErrState, nil, 0},
		{func(c *api.Conn) { c.Lanes[0].Out.Over = false }, api.ErrState, nil, 0},
		{func(c *api.Conn) { c.Lanes[0].Out.Acked = []api.Range{{Lo: 0, Hi: 2}} }, api.ErrState, nil, 0},
		{func(c *api.Conn) { c.Grant = api.MaxVar }, api.OK, nil, api.MaxVar},
		{func(c *api.Conn) { c.Grant, c.Queue = api.MaxVar, queueOf(12) }, api.OK, queueOf(12), api.MaxVar},
		{func(c *api.Conn) { c.Grant = api.MaxVar - 1 }, api.OK, told(api.MaxVar), api.MaxVar},
		{func(c *api.Conn) { c.Queue = queueOf(12) }, api.ErrFull, nil, 0},
		{func(c *api.Conn) { c.Queue = queueOf(11) }, api.OK, append(queueOf(11), told(5)...), 5},
		// What was to be told of it is told anew in its place.
		{func(c *api.Conn) { c.Queue = append(told(4), queueOf(11)...) }, api.OK, append(told(5), queueOf(11)...), 5},
		{func(c *api.Conn) { c.Queue = append(told(4), told(3)...) }, api.OK, append(told(5), told(3)...), 5},
		{func(c *api.Conn) { c.Client, c.Queue = true, queueOf(12) }, api.OK, queueOf(12), 4},
		{func(c *api.Conn) { c.Closed = true }, api.OK, told(5), 5},
		{func(c *api.Conn) { c.Closed, c.Lanes = true, nil }, api.ErrNone, nil, 0},
	} {
		c := changed(one, k.by)
		want := api.Conn{}
		if k.e == api.OK {
			want = changed(c, func(c *api.Conn) { c.Lanes, c.Queue, c.Grant = nil, k.queue, k.grant })
		}
		if d, e := Retire(c, 0); !same(d, want) || e != k.e {
			t.Errorf("Retire(%v) = %v, %d, want %v, %d", c, d, e, want, k.e)
		}
	}
}

// TestTick: P18.9, time passes: what is idle closes, what is overdue is lost.
func TestTick(t *testing.T) {
	for _, c := range []api.Conn{begun(true), full(true), full(false)} {
		c.Last = 20
		for _, now := range outside(api.MaxTime) {
			if d, e := Tick(c, now); !same(d, api.Conn{}) || e != api.ErrRange {
				t.Errorf("Tick(%d) = %v, %d, want ErrRange", now, d, e)
			}
		}
		over := changed(c, func(c *api.Conn) {
			c.Closed, c.Code, c.Lanes, c.Queue, c.Owes = true, 16, nil, nil, false
		})
		for _, now := range []int{80, 81, 1000, api.MaxTime} {
			if d, e := Tick(c, now); !same(d, over) || e != api.OK {
				t.Errorf("Tick(%d) = %v, %d, want %v", now, d, e, over)
			}
		}
		for _, now := range []int{0, 10, 20, 79} {
			if d, e := Tick(c, now); d.Closed || e != api.OK {
				t.Errorf("Tick(%d) = %v, %d, want it open", now, d, e)
			}
		}
		// A closed one stays as it is.
		for _, closed := range []api.Conn{over, changed(c, func(c *api.Conn) { c.Closed, c.Code = true, 99 })} {
			for _, now := range []int{0, 28, 80, api.MaxTime} {
				if d, e := Tick(closed, now); !same(d, closed) || e != api.OK {
					t.Errorf("Tick(%d) of a closed one = %v, %d, want %v", now, d, e, closed)
				}
			}
		}
	}
	late := changed(begun(true), func(c *api.Conn) { c.Last = api.MaxTime })
	if d, e := Tick(late, 0); !same(d, late) || e != api.OK {
		t.Errorf("Tick ahead of Last = %v, %d, want nothing", d, e)
	}
}

// TestTickLoses: P18.9, what was sent eight ticks ago is lost, as is seen now.
func TestTickLoses(t *testing.T) {
	c := full(true) // 7 was sent at 3, 9 at 5
	for _, now := range []int{0, 3, 10} {
		if d, e := Tick(c, now); !same(d, c) || e != api.OK {
			t.Errorf("Tick(%d) = %v, %d, want nothing", now, d, e)
		}
	}
	d, e := Tick(c, 11)
	want := changed(c, func(c *api.Conn) {
		c.Space.Sent = c.Space.Sent[1:]
		c.Pace = api.Pace{Window: 200, Thresh: 200, Flying: 80, Since: 11}
		c.Lanes[1].Out.Lost = []api.Range{{Lo: 2, Hi: 3}}
	})
	if !same(d, want) || e != api.OK {
		t.Errorf("Tick(11) = %v, %d, want %v", d, e, want)
	}
	d, e = Tick(c, 13)
	want = changed(c, func(c *api.Conn) {
		c.Space.Sent = nil
		c.Pace = api.Pace{Window: 200, Thresh: 200, Since: 13}
		c.Lanes[1].Out.Lost = []api.Range{{Lo: 2, Hi: 4}, {Lo: 6, Hi: 6}}
		c.Queue = append(c.Queue, api.Frame{Kind: api.MaxOf, Id: 2, Off: 300}, api.Frame{Kind: api.Token, Data: text(9)})
	})
	if !same(d, want) || e != api.OK {
		t.Errorf("Tick(13) = %v, %d, want %v", d, e, want)
	}
	// What is refused closes it, and is told.
	c.Queue = queueOf(11)
	d, e = Tick(c, 13)
	want = changed(c, func(c *api.Conn) {
		c.Space.Sent = nil
		c.Pace = api.Pace{Window: 200, Thresh: 200, Since: 13}
		c.Closed, c.Code, c.Lanes, c.Owes = true, 8, nil, false
		c.Queue = []api.Frame{{Kind: api.Close, Code: 8}}
	})
	if !same(d, want) || e != api.OK {
		t.Errorf("Tick(13) of a full queue = %v, %d, want %v", d, e, want)
	}
}

// TestSame: the same answers to the same arguments, in new memory, of which no two lists share any; and what is handed in stays as it is.
func TestSame(t *testing.T) {
	frames := []api.Frame{
		{Kind: api.Ack, Ranges: []api.Range{{Lo: 9, Hi: 9}}},
		{Kind: api.Stream, Id: 0, Off: 5, Data: text(2)},
		{Kind: api.Stop, Id: 1, Code: 4},
		{Kind: api.Challenge, Code: 4},
	}
	for i, c := range append(goodEnds(), changed(full(true), func(c *api.Conn) { c.Lanes[1] = overLane(1) })) {
		c = spacious(c)
		for _, now := range []int{0, 11, 13, 90} {
			for id := range 3 {
				b := text(5)
				l := spacious(frames)
				before, beforeL := deep(c), deep(l)
				for _, k := range callsAt(now, id, b, l) {
					out, e := k.do(c)
					again, f := k.do(c)
					if !same(c, before) || !same(l, beforeL) || !bytes.Equal(b, text(5)) || !spare(c) || !spare(l) {
						t.Fatalf("end %d: %s changes what is handed in", i, k.name)
					}
					if e != f || !reflect.DeepEqual(deepAll(out), deepAll(again)) {
						t.Fatalf("end %d: %s answers %v, %d, and then %v, %d", i, k.name, out, e, again, f)
					}
					if sharing(append(append(out, again...), c, b, l)...) {
						t.Fatalf("end %d: %s shares memory", i, k.name)
					}
					if e != api.OK && !nothing(out) {
						t.Fatalf("end %d: %s is refused %d, and tells %v", i, k.name, e, out)
					}
				}
			}
		}
	}
}

func deepAll(l []any) []any {
	var out []any
	for _, x := range l {
		out = append(out, deepValue(reflect.ValueOf(x)).Interface())
	}
	return out
}

// spacious is a thing in which all lists have spare room, which is filled with what is not zero.
func spacious[T any](x T) T {
	return spaciousValue(reflect.ValueOf(x)).Interface().(T)
}

func spaciousValue(v reflect.Value) reflect.Value {
	out := reflect.New(v.Type()).Elem()
	switch v.Kind() {
	case reflect.Struct:
		for i := range v.NumField() {
			out.Field(i).Set(spaciousValue(v.Field(i)))
		}
	case reflect.Slice:
		l := reflect.MakeSlice(v.Type(), v.Len()+3, v.Len()+3)
		for i := range v.Len() {
			l.Index(i).Set(spaciousValue(v.Index(i)))
		}
		for i := range 3 {
			mark(l.Index(v.Len() + i))
		}
		out.Set(l.Slice(0, v.Len()))
	default:
		out.Set(v)
	}
	return out
}

// mark the first number in a thing.
func mark(v reflect.Value) {
	switch v.Kind() {
	case reflect.Struct:
		mark(v.Field(0))
	case reflect.Uint8:
		v.SetUint(0xa5)
	case reflect.Int:
		v.SetInt(0x5a5a)
	}
}

// spare tells whether the spare room of all lists is still as it was marked.
func spare(x any) bool {
	return spareValue(reflect.ValueOf(x))
}

func spareValue(v reflect.Value) bool {
	switch v.Kind() {
	case reflect.Struct:
		for i := range v.NumField() {
			if !spareValue(v.Field(i)) {
				return false
			}
		}
	case reflect.Slice:
		for i := range v.Len() {
			if !spareValue(v.Index(i)) {
				return false
			}
		}
		all := v.Slice(0, v.Cap())
		for i := range 3 {
			want := reflect.New(v.Type().Elem()).Elem()
			mark(want)
			if !reflect.DeepEqual(all.Index(v.Len()+i).Interface(), want.Interface()) {
				return false
			}
		}
	}
	return true
}

// TestHelpers: the helpers of these tests see what they are to see.
func TestHelpers(t *testing.T) {
	c := full(true)
	if !sharing(c, c) || sharing(c, deep(c)) || !same(c, spacious(c)) || !spare(spacious(c)) {
		t.Error("the helpers are blind")
	}
	d := spacious(c)
	_ = append(d.Lanes[1].Out.Data, 1)
	if spare(d) {
		t.Error("what is written to spare room is not seen")
	}
}
