package conn

import (
	"math"
	"testing"

	"spillway/api"
)

// closed is an end that closed for an error, and tells it.
func closedFor(c api.Conn, e api.Errno) api.Conn {
	return changed(c, func(c *api.Conn) {
		c.Closed, c.Code, c.Lanes, c.Owes = true, int(e), nil, false
		c.Queue = []api.Frame{{Kind: api.Close, Code: int(e)}}
	})
}

// noted is an end that has heard of packet 0 at 5, and whether it owes.
func noted(c api.Conn, owes bool) api.Conn {
	return changed(c, func(c *api.Conn) {
		c.Space.Heard = []api.Range{{Lo: 0, Hi: 0}}
		c.Last = max(c.Last, 5)
		c.Owes = c.Owes || owes
	})
}

// hearCase is an end that hears frames in packet 0 at 5: what it is then, but for what noted tells; and the error for which it closes.
type hearCase struct {
	name string
	c    api.Conn
	l    []api.Frame
	by   func(c *api.Conn)
	e    api.Errno
}

func one(f ...api.Frame) []api.Frame { return f }

func unchanged(*api.Conn) {}

func checkHear(t *testing.T, l []hearCase) {
	t.Helper()
	for _, k := range l {
		owes := false
		for _, f := range k.l {
			owes = owes || f.Kind != api.Ack && f.Kind != api.Padding
		}
		want := changed(noted(k.c, owes), k.by)
		if k.e != api.OK {
			want = closedFor(want, k.e)
		}
		if e := Check(k.c); e != api.OK {
			t.Errorf("%s: the end may not be", k.name)
		}
		if d, fresh, e := Hear(k.c, 5, 0, k.l); !same(d, want) || !fresh || e != api.OK {
			t.Errorf("%s: Hear = %+v, %v, %d, want %+v", k.name, d, fresh, e, want)
		}
	}
}

// TestHearRefuses: P18.6, what is refused, in this order.
func TestHearRefuses(t *testing.T) {
	good := one(api.Frame{Kind: api.Ping})
	none := one(api.Frame{Kind: api.Ping}, api.Frame{Kind: 3}, api.Frame{Kind: api.Ping, Id: 1})
	long := one(api.Frame{Kind: api.Stream, Data: make([]byte, 121)}, api.Frame{Kind: 3})
	out := one(api.Frame{Kind: api.MaxOf, Id: -1}, api.Frame{Kind: 3})
	form := one(api.Frame{Kind: api.Ack})
	closed := changed(begun(false), func(c *api.Conn) { c.Closed = true })
	for _, c := range []api.Conn{begun(true), begun(false)} {
		for _, k := range []struct {
			c           api.Conn
			now, number int
			l           []api.Frame
			e           api.Errno
		}{
			{c, -1, 0, good, api.ErrRange},
			{c, api.MaxTime + 1, 0, good, api.ErrRange},
			{c, math.MinInt, 0, good, api.ErrRange},
			{c, math.MaxInt, -1, none, api.ErrRange},
			{c, 0, 0, make([]api.Frame, 13), api.ErrRange},
			{c, 0, 0, append(none, make([]api.Frame, 13)...), api.ErrRange},
			{c, 0, 0, append(none, make([]api.Frame, 9)...), api.ErrKind},
			{c, 0, 0, none, api.ErrKind},
			{c, 0, 0, long, api.ErrSize},
			{c, 0, 0, out, api.ErrRange},
			{c, 0, 0, form, api.ErrForm},
			{c, 0, -1, form, api.ErrForm},
			{c, 0, -1, good, api.ErrRange},
			{c, 0, api.MaxVar + 1, good, api.ErrRange},
			{c, 0, math.MinInt, good, api.ErrRange},
			{c, 0, math.MaxInt, nil, api.ErrRange},
			{closed, -1, 0, good, api.ErrRange},
			{closed, 0, 0, make([]api.Frame, 13), api.ErrRange},
			{closed, 0, 0, none, api.ErrKind},
			{closed, 0, 0, good, api.ErrDone},
			{closed, 0, -1, good, api.ErrDone},
			{closed, 0, 0, nil, api.ErrDone},
		} {
			if d, fresh, e := Hear(k.c, k.now, k.number, k.l); !same(d, api.Conn{}) || fresh || e != k.e {
				t.Errorf("Hear(%d, %d, %v) = %v, %v, %d, want %d", k.now, k.number, k.l, d, fresh, e, k.e)
			}
		}
		for _, k := range []struct{ now, number, n int }{{0, 0, 0}, {0, 0, 12}, {api.MaxTime, api.MaxVar, 1}} {
			if d, fresh, e := Hear(c, k.now, k.number, make([]api.Frame, k.n)); !fresh || e != api.OK || d.Closed {
				t.Errorf("Hear(%v) = %v, %v, %d", k, d, fresh, e)
			}
		}
	}
}

// TestHearNew: P18.6, a packet is heard once; Last does not go back.
func TestHearNew(t *testing.T) {
	ping := one(api.Frame{Kind: api.Ping})
	c := changed(begun(false), func(c *api.Conn) { c.Last = 30 })
	for _, now := range []int{0, 29, 30, 31, api.MaxTime} {
		want := changed(c, func(c *api.Conn) {
			c.Last, c.Owes = max(30, now), true
			c.Space.Heard = []api.Range{{Lo: 7, Hi: 7}}
		})
		if d, fresh, e := Hear(c, now, 7, ping); !same(d, want) || !fresh || e != api.OK {
			t.Errorf("Hear at %d = %v, %v, %d, want %v", now, d, fresh, e, want)
		}
	}
	// One that is not new changes nothing: neither what its frames tell, nor Last.
	old := changed(c, func(c *api.Conn) {
		c.Space.Heard = []api.Range{{Lo: 10, Hi: 12}, {Lo: 20, Hi: 20}, {Lo: 30, Hi: 30}, {Lo: 40, Hi: 40}, {Lo: 50, Hi: 50}, {Lo: 60, Hi: 60}}
	})
	for _, number := range []int{0, 9, 10, 11, 12, 20, 60} {
		for _, l := range [][]api.Frame{nil, ping, one(api.Frame{Kind: api.Close, Code: 7}), one(api.Frame{Kind: api.Stream, Id: 9})} {
			if d, fresh, e := Hear(old, 99, number, l); !same(d, old) || fresh || e != api.OK {
				t.Errorf("Hear(%d) = %v, %v, %d, want nothing", number, d, fresh, e)
			}
		}
	}
	// New ones push out what was heard of long ago.
	d, fresh, e := Hear(old, 99, 70, nil)
	want := changed(old, func(c *api.Conn) {
		c.Space.Heard = append(c.Space.Heard[1:], api.Range{Lo: 70, Hi: 70})
		c.Last = 99
	})
	if !same(d, want) || !fresh || e != api.OK {
		t.Errorf("Hear(70) = %v, %v, %d, want %v", d, fresh, e, want)
	}
}

// TestHearOwes: P18.6, all but Ack, Padding and Close are to be told of.
func TestHearOwes(t *testing.T) {
	c := changed(withLanes(true, 1), func(c *api.Conn) { c.Space.Next = 1 })
	ack := api.Frame{Kind: api.Ack, Ranges: []api.Range{{Lo: 0, Hi: 0}}}
	for _, k := range []struct {
		f    api.Frame
		owes bool
	}{
		{api.Frame{Kind: api.Padding}, false},
		{api.Frame{Kind: api.Ping}, true},
		{ack, false},
		{api.Frame{Kind: api.Reset}, true},
		{api.Frame{Kind: api.Stop}, true},
		{api.Frame{Kind: api.Hello}, true},
		{api.Frame{Kind: api.Token}, true},
		{api.Frame{Kind: api.Stream}, true},
		{api.Frame{Kind: api.MaxDataOf}, true},
		{api.Frame{Kind: api.MaxOf}, true},
		{api.Frame{Kind: api.MaxIds}, true},
		{api.Frame{Kind: api.Challenge}, true},
		{api.Frame{Kind: api.Response}, true},
		{api.Frame{Kind: api.Close}, false},
		{api.Frame{Kind: api.Done}, true},
	} {
		if d, _, e := Hear(c, 0, 0, one(k.f)); d.Owes != k.owes || e != api.OK {
			t.Errorf("Hear of %d owes %v, want %v", k.f.Kind, d.Owes, k.owes)
		}
		for _, l := range [][]api.Frame{one(k.f, ack), one(ack, k.f)} {
			if d, _, e := Hear(c, 0, 0, l); d.Owes != k.owes || e != api.OK {
				t.Errorf("Hear of %v owes %v, want %v", l, d.Owes, k.owes)
			}
		}
		// What is owed already is owed still, unless it is closed.
		owing := changed(c, func(c *api.Conn) { c.Owes = true })
		if d, _, e := Hear(owing, 0, 0, one(k.f)); d.Owes != (k.f.Kind != api.Close) || e != api.OK {
			t.Errorf("Hear of %d by one that owes: %v", k.f.Kind, d.Owes)
		}
	}
}

// TestHearNothing: P18.11, frames that tell nothing to a connection; and P18.6, a packet without frames.
func TestHearNothing(t *testing.T) {
	for _, c := range []api.Conn{begun(true), begun(false), full(true), full(false)} {
		for _, f := range []api.Frame{
			{Kind: api.Padding}, {Kind: api.Ping}, {Kind: api.Hello, Off: 4, Data: text(8)}, {Kind: api.Token, Data: text(8)}, {Kind: api.Response, Code: 9}, {Kind: api.Done},
		} {
			want := changed(c, func(c *api.Conn) {
				c.Last, c.Owes = 9, c.Owes || f.Kind != api.Padding
				c.Space.Heard = append(c.Space.Heard, api.Range{Lo: 50, Hi: 50})
			})
			if d, fresh, e := Hear(c, 9, 50, one(f)); !same(d, want) || !fresh || e != api.OK {
				t.Errorf("Hear(%v) = %v, %v, %d, want %v", f, d, fresh, e, want)
			}
		}
	}
	checkHear(t, []hearCase{{"no frames", begun(false), nil, unchanged, api.OK}})
}

// TestHearNames: P18.10, lanes that are named.
func TestHearNames(t *testing.T) {
	gone := changed(withLanes(true, 3), func(c *api.Conn) { c.Lanes = c.Lanes[1:] })
	opened := func(from, to int) func(c *api.Conn) {
		return func(c *api.Conn) {
			c.Opened = to
			for id := from; id < to; id++ {
				c.Lanes = append(c.Lanes, laneOf(id))
			}
		}
	}
	// A lane that may be named, but that something is done of: its Max tells it.
	named := func(id int) []api.Frame { return one(api.Frame{Kind: api.MaxOf, Id: id, Off: 301}) }
	grown := func(from, to int) func(c *api.Conn) {
		return func(c *api.Conn) {
			opened(from, to)(c)
			c.Lanes[len(c.Lanes)-1].Out.Max = 301
		}
	}
	more := changed(begun(false), func(c *api.Conn) { c.Grant = 9 })
	full := changed(withLanes(false, 4), func(c *api.Conn) { c.Grant = 9 })
	three := changed(withLanes(false, 4), func(c *api.Conn) { c.Grant, c.Lanes = 9, c.Lanes[1:] })
	far := changed(withLanes(false, 4), func(c *api.Conn) {
		c.Grant, c.Opened = api.MaxVar, api.MaxVar-2
	})
	checkHear(t, []hearCase{
		{"the client's first", withLanes(true, 1), named(0), grown(1, 1), api.OK},
		{"none of a client", begun(true), named(0), unchanged, api.ErrNone},
		{"not opened by a client", withLanes(true, 3), named(3), unchanged, api.ErrNone},
		{"far above a client", withLanes(true, 3), named(api.MaxVar), unchanged, api.ErrNone},
		{"a client's lane that went", gone, named(0), unchanged, api.OK},
		// What was granted to the other one does not matter to a client.
		{"granted to a client's other end", changed(withLanes(true, 1), func(c *api.Conn) { c.Grant = 9 }), named(1), unchanged, api.ErrNone},
		{"the first one", begun(false), named(0), grown(0, 1), api.OK},
		{"the third one", begun(false), named(2), grown(0, 3), api.OK},
		{"the last one", begun(false), named(3), grown(0, 4), api.OK},
		{"not granted", begun(false), named(4), unchanged, api.ErrFlow},
		{"far", begun(false), named(api.MaxVar), unchanged, api.ErrFlow},
		{"there already", withLanes(false, 4), named(3), grown(4, 4), api.OK},
		{"gone", changed(gone, func(c *api.Conn) { c.Client, c.Ids, c.Grant = false, 0, 4 }), named(0), unchanged, api.OK},
		{"no room", more, named(4), opened(0, 4), api.ErrFull},
		{"no room for the far one", far, named(api.MaxVar - 1), unchanged, api.ErrFull},
		{"no room for one more", full, named(4), unchanged, api.ErrFull},
		{"room for one more", three, named(4), grown(4, 5), api.OK},
		{"no room for two more", three, named(5), opened(4, 5), api.ErrFull},
		{"not granted, but opened", changed(withLanes(false, 3), func(c *api.Conn) { c.Ids, c.Grant = 3, 2 }), named(2), unchanged, api.ErrFlow},
	})
	for _, kind := range []int{api.Stream, api.Reset, api.Stop, api.MaxOf} {
		checkHear(t, []hearCase{
			{"any kind of a client", begun(true), one(api.Frame{Kind: kind}), unchanged, api.ErrNone},
			{"any kind above the grant", begun(false), one(api.Frame{Kind: kind, Id: 4}), unchanged, api.ErrFlow},
			{"any kind, gone", gone, one(api.Frame{Kind: kind}), unchanged, api.OK},
		})
		if d, _, _ := Hear(begun(false), 0, 0, one(api.Frame{Kind: kind, Id: 1})); d.Opened != 2 || len(d.Lanes) != 2 || d.Closed {
			t.Errorf("a frame of kind %d opens %v", kind, d.Lanes)
		}
	}
	// Those that name none open none.
	for _, kind := range []int{api.Ping, api.MaxIds, api.MaxDataOf, api.Hello, api.Challenge, api.Done} {
		if d, _, _ := Hear(begun(false), 0, 0, one(api.Frame{Kind: kind})); d.Opened != 0 || len(d.Lanes) != 0 {
			t.Errorf("a frame of kind %d opens %v", kind, d.Lanes)
		}
	}
}

// stream of so many bytes of the text of a lane from a place on.
func stream(id, off, n int, fin bool) api.Frame {
	return api.Frame{Kind: api.Stream, Id: id, Off: off, Fin: fin, Data: text(off + n)[off:]}
}

// TestHearStream: P18.11, bytes of lanes.
func TestHearStream(t *testing.T) {
	two := withLanes(false, 2)
	held := func(c *api.Conn) {
		c.Lanes[1].In.Held = []api.Piece{{Off: 4, Data: text(7)[4:]}}
		c.Flow.Used = 7
	}
	read := func(n int) func(c *api.Conn) {
		return func(c *api.Conn) {
			c.Lanes[1].In.Done, c.Lanes[1].In.Held, c.Lanes[1].Read, c.Flow.Used = n, nil, text(n), n
		}
	}
	over := func(n int) func(c *api.Conn) {
		return func(c *api.Conn) {
			read(n)(c)
			c.Lanes[1].In.Final, c.Lanes[1].Over = n, true
		}
	}
	cut := changed(two, func(c *api.Conn) {
		c.Lanes[1].Cut, c.Lanes[1].Over = true, true
		c.Lanes[1].In = api.Gather{Done: 2, Final: 2, Window: 300}
	})
	tight := func(used int) api.Conn {
		return changed(two, func(c *api.Conn) { c.Flow = api.Flow{Max: 1000, Used: used} })
	}
	used := func(n int) func(c *api.Conn) {
		return func(c *api.Conn) { c.Flow.Used = n }
	}
	spent := changed(two, func(c *api.Conn) { held(c); c.Flow = api.Flow{Max: 1000, Used: 1000} })
	// Little more may be read.
	most := func(n int) api.Conn {
		return changed(two, func(c *api.Conn) { c.Lanes[1].Read = text(n) })
	}
	checkHear(t, []hearCase{
		{"the beginning", two, one(stream(1, 0, 3, false)), read(3), api.OK},
		{"all", two, one(stream(1, 0, 3, true)), over(3), api.OK},
		{"the end alone", two, one(stream(1, 0, 0, true)), over(0), api.OK},
		{"nothing", two, one(stream(1, 0, 0, false)), unchanged, api.OK},
		{"behind a gap", two, one(stream(1, 4, 3, false)), held, api.OK},
		{"behind a gap, and again", two, one(stream(1, 4, 3, false), stream(1, 5, 2, false)), held, api.OK},
		{"behind a gap, with the end", two, one(stream(1, 4, 3, true)), func(c *api.Conn) { held(c); c.Lanes[1].In.Final = 7 }, api.OK},
		{"the gap", changed(two, held), one(stream(1, 0, 4, false)), read(7), api.OK},
		{"part of the gap", changed(two, held), one(stream(1, 0, 2, false)), func(c *api.Conn) {
			c.Lanes[1].In.Done, c.Lanes[1].Read = 2, text(2)
		}, api.OK},
		{"more than the gap", changed(two, held), one(stream(1, 0, 9, true)), over(9), api.OK},
		{"bit by bit", two, one(stream(1, 3, 3, true), stream(1, 0, 2, false), stream(1, 1, 4, false)), over(6), api.OK},
		{"once more", changed(two, read(9)), one(stream(1, 2, 5, false)), unchanged, api.OK},
		{"the end by itself", changed(two, read(9)), one(stream(1, 9, 0, true)), over(9), api.OK},
		{"all once more", changed(two, over(9)), one(stream(1, 0, 9, true)), unchanged, api.OK},
		{"a lane that is cut", cut, one(stream(1, 0, 90, true), stream(1, 200, 120, false)), unchanged, api.OK},
		{"behind the end", changed(two, over(9)), one(stream(1, 9, 1, false)), unchanged, api.ErrFinal},
		{"another end", changed(two, read(9)), one(stream(1, 0, 8, true)), unchanged, api.ErrFinal},
		{"up to the window", two, one(stream(1, 299, 1, false)), func(c *api.Conn) {
			c.Lanes[1].In.Held, c.Flow.Used = []api.Piece{{Off: 299, Data: text(300)[299:]}}, 300
		}, api.OK},
		{"behind the window", two, one(stream(1, 299, 2, false)), unchanged, api.ErrFlow},
		{"the last piece", two, one(stream(1, 2, 1, false), stream(1, 4, 1, false), stream(1, 6, 1, false), stream(1, 8, 1, false)), func(c *api.Conn) {
			for _, off := range []int{2, 4, 6, 8} {
				c.Lanes[1].In.Held = append(c.Lanes[1].In.Held, api.Piece{Off: off, Data: text(off + 1)[off:]})
			}
			c.Flow.Used = 9
		}, api.OK},
		{"too many pieces", two, one(stream(1, 2, 1, false), stream(1, 4, 1, false), stream(1, 6, 1, false), stream(1, 8, 1, false), stream(1, 10, 1, false)), used(9), api.ErrFull},
		{"all of the flow", tight(600), one(stream(1, 299, 1, false), stream(0, 0, 100, false)), func(c *api.Conn) {
			c.Lanes[1].In.Held = []api.Piece{{Off: 299, Data: text(300)[299:]}}
			c.Lanes[0].In.Done, c.Lanes[0].Read = 100, text(100)
			c.Flow = api.Flow{Max: 1700, Used: 1000}
			c.Queue = one(api.Frame{Kind: api.MaxDataOf, Off: 1700})
		}, api.OK},
		{"more than the flow", tight(600), one(stream(1, 299, 1, false), stream(0, 0, 101, false)), used(900), api.ErrFlow},
		{"what came again takes no flow", spent, one(stream(1, 4, 2, false), stream(1, 0, 6, false)), func(c *api.Conn) {
			read(7)(c)
			c.Flow = api.Flow{Max: 1700, Used: 1000}
			c.Queue = one(api.Frame{Kind: api.MaxDataOf, Off: 1700})
		}, api.OK},
		{"one more takes flow", spent, one(stream(1, 4, 4, false)), unchanged, api.ErrFlow},
		{"as much as may be read", most(797), one(stream(1, 0, 3, false)), func(c *api.Conn) {
			c.Lanes[1].In.Done, c.Lanes[1].Read, c.Flow.Used = 3, append(text(797), text(3)...), 3
		}, api.OK},
		{"more than may be read", most(798), one(stream(1, 0, 3, false)), used(3), api.ErrSize},
		{"what may be read, held", most(800), one(stream(1, 1, 3, false)), func(c *api.Conn) {
			c.Lanes[1].In.Held, c.Flow.Used = []api.Piece{{Off: 1, Data: text(4)[1:]}}, 4
		}, api.OK},
		{"the gap ahead of it", most(800), one(stream(1, 1, 3, false), stream(1, 0, 1, false)), used(4), api.ErrSize},
		{"of a client", withLanes(true, 2), one(stream(1, 0, 3, true)), over(3), api.OK},
		{"a lane that is Over, for whatever reason", changed(two, func(c *api.Conn) { c.Lanes[1].Over = true }), one(stream(1, 0, 3, false)), func(c *api.Conn) {
			read(3)(c)
		}, api.OK},
	})
}

// TestHearReset: P18.11, lanes that are cut off.
func TestHearReset(t *testing.T) {
	reset := func(off int) []api.Frame { return one(api.Frame{Kind: api.Reset, Id: 1, Off: off, Code: 7}) }
	two := withLanes(true, 2)
	some := changed(two, func(c *api.Conn) {
		c.Lanes[1].In = api.Gather{Done: 5, Final: -1, Window: 400, Held: []api.Piece{{Off: 7, Data: text(3)}}}
		c.Lanes[1].Read = text(5)
		c.Flow.Used = 10
	})
	final := changed(some, func(c *api.Conn) { c.Lanes[1].In.Final = 12 })
	over := changed(two, func(c *api.Conn) {
		c.Lanes[1].In = api.Gather{Done: 5, Final: 5, Window: 300}
		c.Lanes[1].Read, c.Lanes[1].Over, c.Flow.Used = text(5), true, 5
	})
	cut := func(off, window, spent int) func(c *api.Conn) {
		return func(c *api.Conn) {
			c.Lanes[1].Cut, c.Lanes[1].Over = true, true
			c.Lanes[1].In = api.Gather{Done: off, Final: off, Window: window}
			c.Flow.Used += spent
			c.Resets++
		}
	}
	resets := func(c api.Conn, n int) api.Conn {
		return changed(c, func(c *api.Conn) { c.Resets = n })
	}
	tight := changed(some, func(c *api.Conn) { c.Flow = api.Flow{Max: 1000, Used: 950} })
	checkHear(t, []hearCase{
		{"ahead of all", two, reset(0), cut(0, 300, 0), api.OK},
		{"at the window", two, reset(300), cut(300, 300, 300), api.OK},
		{"above the window", two, reset(301), unchanged, api.ErrFlow},
		{"far above", two, reset(api.MaxVar), unchanged, api.ErrFlow},
		{"at the reach", some, reset(10), cut(10, 400, 0), api.OK},
		{"below the reach", some, reset(9), unchanged, api.ErrFinal},
		{"above the reach", some, reset(100), cut(100, 400, 90), api.OK},
		{"at the end", final, reset(12), cut(12, 400, 2), api.OK},
		{"above the end", final, reset(13), unchanged, api.ErrFinal},
		{"below the end", final, reset(11), unchanged, api.ErrFinal},
		{"above the end, and the window", final, reset(401), unchanged, api.ErrFinal},
		{"above an end at once", changed(two, func(c *api.Conn) { c.Lanes[1].In.Final = 0 }), reset(1), unchanged, api.ErrFinal},
		{"a lane that is over", over, reset(5), cut(5, 300, 0), api.OK},
		{"a lane that is over, elsewhere", over, reset(6), unchanged, api.ErrFinal},
		{"no more flow", tight, reset(60), func(c *api.Conn) {
			cut(60, 400, 50)(c)
			c.Flow.Max, c.Queue = 1700, one(api.Frame{Kind: api.MaxDataOf, Off: 1700})
		}, api.OK},
		{"more than the flow", tight, reset(61), unchanged, api.ErrFlow},
		{"more than the flow, and too often", resets(tight, 4), reset(61), unchanged, api.ErrFlow},
		{"the last one", resets(two, 3), reset(9), cut(9, 300, 9), api.OK},
		{"too often", resets(two, 4), reset(9), func(c *api.Conn) { c.Flow.Used += 9 }, api.ErrFull},
		{"too often, and above the window", resets(two, 4), reset(301), unchanged, api.ErrFlow},
		{"too often, and below the reach", resets(some, 4), reset(9), unchanged, api.ErrFinal},
		{"twice", two, append(reset(9), reset(8)...), cut(9, 300, 9), api.OK},
		{"twice, too often", resets(two, 3), append(reset(9), reset(400)...), cut(9, 300, 9), api.OK},
		{"and bytes", two, append(reset(9), stream(1, 0, 20, true)), cut(9, 300, 9), api.OK},
		{"by one who isn't a client", withLanes(false, 2), reset(9), cut(9, 300, 9), api.OK},
	})
}

// TestHearStop: P18.11, what is sent on a lane ends where it has come to, and that is told.
func TestHearStop(t *testing.T) {
	stop := func(code int) api.Frame { return api.Frame{Kind: api.Stop, Id: 1, Code: code} }
	told := func(off, code int) api.Frame { return api.Frame{Kind: api.Reset, Id: 1, Off: off, Code: code} }
	with := func(s api.Sender, l ...api.Frame) api.Conn {
		return changed(withLanes(true, 2), func(c *api.Conn) { c.Lanes[1].Out, c.Queue = s, l })
	}
	ended := func(n, most int, l ...api.Frame) func(c *api.Conn) {
		return func(c *api.Conn) {
			c.Lanes[1].Out = api.Sender{Data: make([]byte, n), Fin: true, Next: n, Max: most, Over: true}
			if n > 0 {
				c.Lanes[1].Out.Acked = []api.Range{{Lo: 0, Hi: n - 1}}
			}
			c.Queue = l
		}
	}
	mid := api.Sender{Data: text(9), Next: 5, Max: 400, Lost: []api.Range{{Lo: 1, Hi: 1}}, Acked: []api.Range{{Lo: 3, Hi: 3}}}
	all := api.Sender{Data: text(9), Fin: true, Next: 9, Max: 9, Ended: true}
	heardEnd := api.Sender{Data: text(9), Fin: true, Next: 9, Max: 300, Over: true, Acked: []api.Range{{Lo: 0, Hi: 7}}}
	over := api.Sender{Data: text(9), Fin: true, Next: 9, Max: 300, Over: true, Acked: []api.Range{{Lo: 0, Hi: 8}}}
	empty := api.Sender{Fin: true, Max: 300, Over: true}
	other := api.Frame{Kind: api.Reset, Id: 0, Off: 3}
	checkHear(t, []hearCase{
		{"nothing sent", with(api.Sender{Max: 300}), one(stop(7)), ended(0, 300, told(0, 7)), api.OK},
		{"nothing sent of much", with(api.Sender{Data: text(9), Fin: true, Max: 300}), one(stop(0)), ended(0, 300, told(0, 0)), api.OK},
		{"amid", with(mid), one(stop(api.MaxVar)), ended(5, 400, told(5, api.MaxVar)), api.OK},
		{"all sent", with(all), one(stop(7)), ended(9, 9, told(9, 7)), api.OK},
		{"the end heard of, but not all", with(heardEnd), one(stop(7)), ended(9, 300, told(9, 7)), api.OK},
		{"all heard of", with(over), one(stop(7)), unchanged, api.OK},
		{"all heard of nothing", with(empty), one(stop(7)), unchanged, api.OK},
		{"twice", with(mid), one(stop(7), stop(8)), ended(5, 400, told(5, 7)), api.OK},
		{"behind others", with(mid, other), one(stop(7)), ended(5, 400, other, told(5, 7)), api.OK},
		{"in its place", with(mid, told(99, 9), other, told(98, 8)), one(stop(7)), ended(5, 400, told(5, 7), other, told(98, 8)), api.OK},
		{"the last of the queue", with(mid, queueOf(11)...), one(stop(7)), ended(5, 400, append(queueOf(11), told(5, 7))...), api.OK},
		{"no room", with(mid, queueOf(12)...), one(stop(7)), unchanged, api.ErrFull},
		{"in its place, though there is no room", with(mid, append(queueOf(11), told(4, 4))...), one(stop(7)), ended(5, 400, append(queueOf(11), told(5, 7))...), api.OK},
		{"all heard of, and no room", with(over, queueOf(12)...), one(stop(7)), unchanged, api.OK},
	})
}

// TestHearGrants: P18.11, MaxOf, MaxDataOf and MaxIds let this end send more, never less.
func TestHearGrants(t *testing.T) {
	c := changed(withLanes(true, 2), func(c *api.Conn) { c.Lanes[1].Out = api.Sender{Data: text(9), Next: 3, Max: 300} })
	d := changed(withLanes(false, 2), func(c *api.Conn) { c.Ids = 3 })
	maxOf := func(off int) []api.Frame { return one(api.Frame{Kind: api.MaxOf, Id: 1, Off: off}) }
	data := func(off int) []api.Frame { return one(api.Frame{Kind: api.MaxDataOf, Off: off}) }
	ids := func(off int) []api.Frame { return one(api.Frame{Kind: api.MaxIds, Off: off}) }
	for _, off := range []int{0, 2, 3, 4, 5, 299, 300, 301, 699, 700, 701, api.MaxVar} {
		for _, end := range []api.Conn{c, d} {
			checkHear(t, []hearCase{
				{"MaxOf", end, maxOf(off), func(c *api.Conn) { c.Lanes[1].Out.Max = max(300, off) }, api.OK},
				{"MaxDataOf", end, data(off), func(c *api.Conn) { c.Credit.Max = max(700, off) }, api.OK},
			})
		}
		checkHear(t, []hearCase{
			{"MaxIds", c, ids(off), func(c *api.Conn) { c.Ids = max(4, off) }, api.OK},
			{"MaxIds, no client", d, ids(off), unchanged, api.OK},
		})
	}
}

// TestHearChallenge: P18.11, each challenge has its own response.
func TestHearChallenge(t *testing.T) {
	challenge := func(code int) api.Frame { return api.Frame{Kind: api.Challenge, Code: code} }
	response := func(code int) api.Frame { return api.Frame{Kind: api.Response, Code: code} }
	with := func(l ...api.Frame) api.Conn { return changed(begun(false), func(c *api.Conn) { c.Queue = l }) }
	queue := func(l ...api.Frame) func(c *api.Conn) { return func(c *api.Conn) { c.Queue = l } }
	checkHear(t, []hearCase{
		{"one", with(), one(challenge(9)), queue(response(9)), api.OK},
		{"none", with(), one(challenge(0)), queue(response(0)), api.OK},
		{"great", with(), one(challenge(api.MaxVar)), queue(response(api.MaxVar)), api.OK},
		{"two", with(), one(challenge(9), challenge(8), challenge(9)), queue(response(9), response(8), response(9)), api.OK},
		{"behind others", with(response(1), api.Frame{Kind: api.Ping}), one(challenge(1)), queue(response(1), api.Frame{Kind: api.Ping}, response(1)), api.OK},
		{"the last one", with(queueOf(11)...), one(challenge(11)), queue(queueOf(12)...), api.OK},
		{"no room", with(queueOf(12)...), one(challenge(0)), unchanged, api.ErrFull},
		{"twelve", with(), many(12, challenge(3)), queue(many(12, response(3))...), api.OK},
	})
}

// many frames that are alike.
func many(n int, f api.Frame) []api.Frame {
	var l []api.Frame
	for range n {
		l = append(l, f)
	}
	return l
}

// TestHearClose: P18.11, the other one closes: nothing is told of it.
func TestHearClose(t *testing.T) {
	ping := api.Frame{Kind: api.Ping}
	for _, c := range []api.Conn{begun(true), begun(false), full(true), full(false)} {
		for _, code := range []int{0, 1, 77, api.MaxVar} {
			want := changed(c, func(c *api.Conn) {
				c.Space.Heard = append(c.Space.Heard, api.Range{Lo: 50, Hi: 50})
				c.Last = 9
				c.Closed, c.Code, c.Lanes, c.Queue, c.Owes = true, code, nil, nil, false
			})
			end := api.Frame{Kind: api.Close, Code: code}
			for _, l := range [][]api.Frame{one(end), one(ping, end), one(end, ping), one(end, api.Frame{Kind: api.Close, Code: 5}), one(end, api.Frame{Kind: api.Stream, Id: 99})} {
				if d, fresh, e := Hear(c, 9, 50, l); !same(d, want) || !fresh || e != api.OK {
					t.Errorf("Hear(%v) = %v, %v, %d, want %v", l, d, fresh, e, want)
				}
			}
		}
	}
	// What came ahead of it is done; what comes behind is not; windows are not widened.
	low := changed(begun(true), func(c *api.Conn) { c.Flow.Used = 700 })
	checkHear(t, []hearCase{
		{"amid", low, one(api.Frame{Kind: api.MaxIds, Off: 7}, api.Frame{Kind: api.Close, Code: 3}, api.Frame{Kind: api.MaxIds, Off: 9}), func(c *api.Conn) {
			c.Ids, c.Closed, c.Code, c.Owes = 7, true, 3, false
		}, api.OK},
	})
}

// TestHearCloses: P18.6 and P18.13, what is refused within closes it: what was done ahead of it stays done, nothing is done behind it.
func TestHearCloses(t *testing.T) {
	c := changed(full(true), func(c *api.Conn) { c.Flow.Used = 690 })
	bad := api.Frame{Kind: api.Stream, Id: 3}
	l := one(api.Frame{Kind: api.MaxIds, Off: 7}, api.Frame{Kind: api.MaxDataOf, Off: 777}, bad, api.Frame{Kind: api.MaxIds, Off: 9}, api.Frame{Kind: api.Close, Code: 3})
	want := closedFor(changed(c, func(c *api.Conn) {
		c.Space.Heard = append(c.Space.Heard, api.Range{Lo: 50, Hi: 50})
		c.Last, c.Ids, c.Credit.Max = 9, 7, 777
	}), api.ErrNone)
	d, fresh, e := Hear(c, 9, 50, l)
	if !same(d, want) || !fresh || e != api.OK || Check(d) != api.OK {
		t.Errorf("Hear = %v, %v, %d, want %v", d, fresh, e, want)
	}
	// It hears no more, then.
	if x, fresh, e := Hear(d, 9, 51, nil); !same(x, api.Conn{}) || fresh || e != api.ErrDone {
		t.Errorf("Hear of a closed one = %v, %v, %d, want ErrDone", x, fresh, e)
	}
}

// TestHearFrameByFrame: P18.14, a frame finds what those ahead of it have done.
func TestHearFrameByFrame(t *testing.T) {
	checkHear(t, []hearCase{
		{"bytes, cut, and stopped", begun(false), one(stream(0, 0, 5, false), api.Frame{Kind: api.Reset, Off: 5}, stream(0, 5, 9, false), api.Frame{Kind: api.Stop, Code: 6}), func(c *api.Conn) {
			l := laneOf(0)
			l.In = api.Gather{Done: 5, Final: 5, Window: 300}
			l.Read, l.Over, l.Cut = text(5), true, true
			l.Out = api.Sender{Fin: true, Max: 300, Over: true}
			c.Lanes, c.Opened, c.Flow.Used, c.Resets = []api.Lane{l}, 1, 5, 1
			c.Queue = one(api.Frame{Kind: api.Reset, Code: 6})
		}, api.OK},
		{"granted, then stopped", withLanes(true, 1), one(api.Frame{Kind: api.MaxOf, Off: 500}, api.Frame{Kind: api.Stop}), func(c *api.Conn) {
			c.Lanes[0].Out = api.Sender{Fin: true, Max: 500, Over: true}
			c.Queue = one(api.Frame{Kind: api.Reset})
		}, api.OK},
		{"stopped, then granted", withLanes(true, 1), one(api.Frame{Kind: api.Stop}, api.Frame{Kind: api.MaxOf, Off: 500}), func(c *api.Conn) {
			c.Lanes[0].Out = api.Sender{Fin: true, Max: 500, Over: true}
			c.Queue = one(api.Frame{Kind: api.Reset})
		}, api.OK},
	})
}

// TestWiden: P18.15, windows of which less than half is left.
func TestWiden(t *testing.T) {
	with := func(done int, over bool) api.Lane {
		l := laneOf(0)
		l.In.Done, l.Over = done, over
		return l
	}
	window := func(done, window int) api.Conn {
		return changed(withLanes(false, 1), func(c *api.Conn) { c.Lanes[0].In = api.Gather{Done: done, Final: -1, Window: window} })
	}
	lane := func(id, off int) api.Frame { return api.Frame{Kind: api.MaxOf, Id: id, Off: off} }
	all := func(off int) api.Frame { return api.Frame{Kind: api.MaxDataOf, Off: off} }
	wide := func(at, off int, l ...api.Frame) func(c *api.Conn) {
		return func(c *api.Conn) { c.Lanes[at].In.Window, c.Queue = off, l }
	}
	flow := func(used, most int, l ...api.Frame) api.Conn {
		return changed(begun(true), func(c *api.Conn) { c.Flow, c.Queue = api.Flow{Max: most, Used: used}, l })
	}
	granted := func(off int, l ...api.Frame) func(c *api.Conn) {
		return func(c *api.Conn) { c.Flow.Max, c.Queue = off, l }
	}
	three := changed(withLanes(true, 3), func(c *api.Conn) {
		c.Lanes[0].In.Done, c.Lanes[1].In.Done, c.Lanes[2].In.Done = 151, 150, 300
		c.Flow = api.Flow{Max: 700, Used: 351}
	})
	over := changed(three, func(c *api.Conn) { c.Lanes[0].Over = true })
	const top = api.MaxVar
	checkHear(t, []hearCase{
		{"half of a lane", window(150, 300), nil, unchanged, api.OK},
		{"less than half", window(151, 300), nil, wide(0, 451, lane(0, 451)), api.OK},
		{"none left", window(300, 300), nil, wide(0, 600, lane(0, 600)), api.OK},
		{"a narrow one", window(0, 149), nil, wide(0, 300, lane(0, 300)), api.OK},
		{"a narrow half", window(0, 150), nil, unchanged, api.OK},
		{"nothing at all", window(0, 0), nil, wide(0, 300, lane(0, 300)), api.OK},
		{"up to the top", window(top-200, top-60), nil, wide(0, top, lane(0, top)), api.OK},
		{"at the top", window(top-149, top), nil, wide(0, top, lane(0, top)), api.OK},
		{"half, at the top", window(top-150, top), nil, unchanged, api.OK},
		{"just below the top", window(top-301, top-301), nil, wide(0, top-1, lane(0, top-1)), api.OK},
		{"over", changed(window(300, 300), func(c *api.Conn) { c.Lanes[0] = with(300, true) }), nil, unchanged, api.OK},
		{"half of all", flow(350, 700), nil, unchanged, api.OK},
		{"less than half of all", flow(351, 700), nil, granted(1051, all(1051)), api.OK},
		{"none of all", flow(700, 700), nil, granted(1400, all(1400)), api.OK},
		{"nothing granted", flow(0, 0), nil, granted(700, all(700)), api.OK},
		{"all, at the top", flow(top-349, top), nil, granted(top, all(top)), api.OK},
		{"all, up to the top", flow(top-400, top-60), nil, granted(top, all(top)), api.OK},
		{"half of all, at the top", flow(top-350, top), nil, unchanged, api.OK},
		{"lane by lane, then all", three, nil, func(c *api.Conn) {
			c.Lanes[0].In.Window, c.Lanes[2].In.Window, c.Flow.Max = 451, 600, 1051
			c.Queue = one(lane(0, 451), lane(2, 600), all(1051))
		}, api.OK},
		{"but not those that are over", over, nil, func(c *api.Conn) {
			c.Lanes[2].In.Window, c.Flow.Max = 600, 1051
			c.Queue = one(lane(2, 600), all(1051))
		}, api.OK},
		{"in the place of what was to be told", changed(three, func(c *api.Conn) { c.Queue = one(all(700), lane(2, 300), lane(1, 300)) }), nil, func(c *api.Conn) {
			c.Lanes[0].In.Window, c.Lanes[2].In.Window, c.Flow.Max = 451, 600, 1051
			c.Queue = one(all(1051), lane(2, 600), lane(1, 300), lane(0, 451))
		}, api.OK},
		{"no room for a lane", changed(window(151, 300), func(c *api.Conn) { c.Queue = queueOf(12) }), nil, unchanged, api.ErrFull},
		{"no room for all", flow(351, 700, queueOf(12)...), nil, granted(1051), api.ErrFull},
		{"bytes that are read", withLanes(false, 1), one(stream(0, 0, 100, false), stream(0, 100, 51, false)), func(c *api.Conn) {
			c.Lanes[0].In = api.Gather{Done: 151, Final: -1, Window: 451}
			c.Lanes[0].Read, c.Flow.Used = text(151), 151
			c.Queue = one(lane(0, 451))
		}, api.OK},
		{"bytes that wait", withLanes(false, 1), one(stream(0, 100, 51, false), stream(0, 200, 100, false)), func(c *api.Conn) {
			c.Lanes[0].In.Held = []api.Piece{{Off: 100, Data: text(151)[100:]}, {Off: 200, Data: text(300)[200:]}}
			c.Flow.Used = 300
		}, api.OK},
	})
}
