package conn

import (
	"testing"

	"spillway/api"
	"spillway/frame"
)

// sizeOf frames in a packet, by their bytes.
func sizeOf(l []api.Frame) int {
	n := 24
	for _, f := range l {
		b, _ := frame.Encode(f)
		n += len(b)
	}
	return n
}

// went is an end that has sent frames at 5, with which others see that they arrive.
func went(c api.Conn, l []api.Frame, by func(c *api.Conn)) api.Conn {
	return changed(c, func(c *api.Conn) {
		c.Space.Sent = append(c.Space.Sent, api.Parcel{Number: c.Space.Next, Time: 5, Size: sizeOf(l), Frames: l})
		c.Space.Next++
		c.Pace.Flying += sizeOf(l)
		c.Owes = false
		by(c)
	})
}

// wentQuietly is an end that has sent frames with which nobody sees that they arrive.
func wentQuietly(c api.Conn, by func(c *api.Conn)) api.Conn {
	return changed(c, func(c *api.Conn) {
		c.Space.Next++
		c.Owes = false
		by(c)
	})
}

// flushCase is an end that flushes at 5, what it sends, and what it is then.
type flushCase struct {
	name string
	c    api.Conn
	l    []api.Frame
	want api.Conn
}

func checkFlush(t *testing.T, l []flushCase) {
	t.Helper()
	for _, k := range l {
		if e := Check(k.c); e != api.OK {
			t.Errorf("%s: the end may not be", k.name)
		}
		number := k.c.Space.Next
		if len(k.l) == 0 {
			number = 0
		}
		d, n, got, e := Flush(k.c, 5)
		if !same(d, k.want) || n != number || !same(got, k.l) || e != api.OK || Check(d) != api.OK {
			t.Errorf("%s: Flush = %+v, %d, %v, %d, want %+v, %d, %v", k.name, d, n, got, e, k.want, number, k.l)
		}
	}
}

// oweAck is an end that owes, and has heard of 3 and 4, and of 7.
func oweAck(c api.Conn) api.Conn {
	return changed(c, func(c *api.Conn) {
		c.Owes, c.Space.Heard, c.Space.Next = true, []api.Range{{Lo: 3, Hi: 4}, {Lo: 7, Hi: 7}}, 9
	})
}

var theAck = api.Frame{Kind: api.Ack, Ranges: []api.Range{{Lo: 7, Hi: 7}, {Lo: 3, Hi: 4}}}

// queueing is an end with such a Queue.
func queueing(c api.Conn, l ...api.Frame) api.Conn {
	return changed(c, func(c *api.Conn) { c.Queue = l })
}

// writing is an end whose lanes have so many bytes to send each.
func writing(c api.Conn, l ...int) api.Conn {
	return changed(c, func(c *api.Conn) {
		for i, n := range l {
			c.Lanes[i].Out.Data = text(n)
		}
	})
}

func tokenOf(n int) api.Frame { return api.Frame{Kind: api.Token, Data: text(n)} }

// TestFlushRefuses: P18.8, the time.
func TestFlushRefuses(t *testing.T) {
	for _, c := range []api.Conn{begun(true), full(false), changed(full(true), func(c *api.Conn) { c.Closed = true })} {
		for _, now := range outside(api.MaxTime) {
			if d, n, l, e := Flush(c, now); !same(d, api.Conn{}) || n != 0 || len(l) != 0 || e != api.ErrRange {
				t.Errorf("Flush(%d) = %v, %d, %v, %d, want ErrRange", now, d, n, l, e)
			}
		}
		for _, now := range []int{0, api.MaxTime} {
			if _, _, _, e := Flush(c, now); e != api.OK {
				t.Errorf("Flush(%d) = %d", now, e)
			}
		}
	}
}

// TestFlushClosed: P18.8, a closed one tells all of its queue, once, and is heard of by nobody.
func TestFlushClosed(t *testing.T) {
	shut := func(c api.Conn, l ...api.Frame) api.Conn {
		return changed(c, func(c *api.Conn) { c.Closed, c.Queue = true, l })
	}
	end := api.Frame{Kind: api.Close, Code: 9}
	gone := func(c *api.Conn) { c.Queue = nil }
	var great []api.Frame
	for range 12 {
		great = append(great, tokenOf(120))
	}
	for _, c := range []api.Conn{begun(true), begun(false), full(true), oweAck(writing(withLanes(true, 2), 9, 9))} {
		checkFlush(t, []flushCase{
			{"nothing", shut(c), nil, shut(c)},
			{"a close", shut(c, end), one(end), wentQuietly(shut(c, end), gone)},
			{"more", shut(c, queueOf(12)...), queueOf(12), wentQuietly(shut(c, queueOf(12)...), gone)},
			{"more than a packet", shut(c, great...), great, wentQuietly(shut(c, great...), gone)},
		})
		top := shut(changed(c, func(c *api.Conn) { c.Space.Next = api.MaxVar }), end)
		if d, n, l, e := Flush(top, 5); !same(d, api.Conn{}) || n != 0 || len(l) != 0 || e != api.ErrFull {
			t.Errorf("Flush of a closed one at the top = %v, %d, %v, %d, want ErrFull", d, n, l, e)
		}
		top.Queue = nil
		checkFlush(t, []flushCase{{"nothing, at the top", top, nil, top}})
	}
}

// TestFlushAck: P18.8, what was heard of is told, alone or ahead of all else.
func TestFlushAck(t *testing.T) {
	for _, client := range []bool{true, false} {
		c := begun(client)
		owing := oweAck(c)
		deaf := changed(c, func(c *api.Conn) { c.Owes = true })
		heard := changed(owing, func(c *api.Conn) { c.Owes = false })
		ping := api.Frame{Kind: api.Ping}
		checkFlush(t, []flushCase{
			{"nothing", c, nil, c},
			{"nothing owed", heard, nil, heard},
			{"nothing heard of", deaf, nil, deaf},
			{"an ack alone", owing, one(theAck), wentQuietly(owing, unchanged)},
			{"an ack, and a frame", queueing(owing, ping), one(theAck, ping), went(owing, one(theAck, ping), unchanged)},
			{"a frame, and nothing heard of", queueing(deaf, ping), one(ping), went(deaf, one(ping), unchanged)},
			{"a frame, and nothing owed", queueing(heard, ping), one(ping), went(heard, one(ping), unchanged)},
		})
	}
}

// TestFlushHeld: P18.8, what pace or space does not let be sent stays as it is; an ack goes alone.
func TestFlushHeld(t *testing.T) {
	ping := api.Frame{Kind: api.Ping} // 1 byte
	c := writing(queueing(withLanes(true, 2), ping), 9, 9)
	size := sizeOf(one(ping, stream(0, 0, 9, false), stream(1, 0, 9, false)))
	owing := oweAck(c)
	ackSize := sizeOf(one(theAck)) - 24
	flying := func(c api.Conn, n int) api.Conn {
		return changed(c, func(c *api.Conn) { c.Pace.Flying = n })
	}
	crowd := func(c api.Conn, n int) api.Conn {
		return changed(c, func(c *api.Conn) {
			c.Space.Next = 40
			for i := range n {
				c.Space.Sent = append(c.Space.Sent, api.Parcel{Number: i, Frames: one(ping)})
			}
		})
	}
	all := one(ping, stream(0, 0, 9, false), stream(1, 0, 9, false))
	done := func(c *api.Conn) {
		c.Queue, c.Credit.Used = nil, 18
		c.Lanes[0].Out.Next, c.Lanes[1].Out.Next = 9, 9
	}
	acked := append(one(theAck), all...)
	full := flying(c, 400-size+1)
	top := changed(c, func(c *api.Conn) { c.Space.Next = api.MaxVar })
	near := changed(c, func(c *api.Conn) { c.Space.Next = api.MaxVar - 1 })
	checkFlush(t, []flushCase{
		{"as much as may be on its way", flying(c, 400-size), all, went(flying(c, 400-size), all, done)},
		{"more than may be on its way", full, nil, full},
		{"an ack, and as much", flying(owing, 400-size-ackSize), acked, went(flying(owing, 400-size-ackSize), acked, done)},
		{"an ack, and more", flying(owing, 400-size-ackSize+1), one(theAck), wentQuietly(flying(owing, 400-size-ackSize+1), unchanged)},
		{"an ack, however much", flying(owing, 9000), one(theAck), wentQuietly(flying(owing, 9000), unchanged)},
		{"as many as may be on their way", crowd(c, 23), all, went(crowd(c, 23), all, done)},
		{"more than may be on their way", crowd(c, 24), nil, crowd(c, 24)},
		{"an ack, and too many", crowd(owing, 24), one(theAck), wentQuietly(crowd(owing, 24), unchanged)},
		{"the last number", near, all, went(near, all, done)},
		{"no more number", top, nil, top},
	})
	last := changed(owing, func(c *api.Conn) { c.Space.Next = api.MaxVar - 1; c.Pace.Flying = 400 })
	checkFlush(t, []flushCase{{"an ack with the last number", last, one(theAck), wentQuietly(last, unchanged)}})
	for _, owing := range []api.Conn{oweAck(begun(true)), owing} {
		top := changed(owing, func(c *api.Conn) { c.Space.Next = api.MaxVar })
		if d, n, l, e := Flush(top, 5); !same(d, api.Conn{}) || n != 0 || len(l) != 0 || e != api.ErrFull {
			t.Errorf("Flush of an ack at the top = %v, %d, %v, %d, want ErrFull", d, n, l, e)
		}
	}
}

// TestFlushQueue: P18.8, frames of the queue, from the first one on, as many and as much as leave room for a lane.
func TestFlushQueue(t *testing.T) {
	c := begun(false)
	left := func(l ...api.Frame) func(c *api.Conn) { return func(c *api.Conn) { c.Queue = l } }
	sent := func(n int, c api.Conn) flushCase {
		return flushCase{"queue", c, c.Queue[:n], went(c, c.Queue[:n], left(c.Queue[n:]...))}
	}
	acked := func(n int, c api.Conn) flushCase {
		l := append(one(theAck), c.Queue[:n]...)
		return flushCase{"queue behind an ack", c, l, went(c, l, left(c.Queue[n:]...))}
	}
	ackSize := sizeOf(one(theAck)) - 24
	if ackSize != 6 {
		t.Fatalf("the ack has %d bytes", ackSize)
	}
	checkFlush(t, []flushCase{
		sent(1, queueing(c, queueOf(1)...)),
		sent(10, queueing(c, queueOf(10)...)),
		sent(11, queueing(c, queueOf(11)...)),
		sent(11, queueing(c, queueOf(12)...)),
		acked(10, queueing(oweAck(c), queueOf(10)...)),
		acked(10, queueing(oweAck(c), queueOf(11)...)),
		acked(10, queueing(oweAck(c), queueOf(12)...)),
		// 24, 123, 123, and then 82 or 83.
		sent(3, queueing(c, tokenOf(120), tokenOf(120), tokenOf(79))),
		sent(2, queueing(c, tokenOf(120), tokenOf(120), tokenOf(80))),
		acked(3, queueing(oweAck(c), tokenOf(120), tokenOf(120), tokenOf(73))),
		acked(2, queueing(oweAck(c), tokenOf(120), tokenOf(120), tokenOf(74))),
		// What is behind one that has no room waits, too.
		sent(2, queueing(c, tokenOf(120), tokenOf(120), tokenOf(80), api.Frame{Kind: api.Ping})),
		sent(3, queueing(c, tokenOf(120), tokenOf(120), tokenOf(79), api.Frame{Kind: api.Ping})),
		// Any frame that may be is sent as it is.
		sent(4, queueing(c, api.Frame{Kind: api.Stream, Id: 9, Off: 8, Fin: true, Data: text(7)}, api.Frame{Kind: api.Close, Code: 3}, theAck, api.Frame{Kind: api.Padding})),
	})
}

// TestFlushPieces: P18.8, of each lane a piece, as far as there is room, and credit.
func TestFlushPieces(t *testing.T) {
	four := withLanes(true, 4)
	credit := func(c api.Conn, left int) api.Conn {
		return changed(c, func(c *api.Conn) { c.Credit.Used = c.Credit.Max - left })
	}
	// Each lane is sent up to such a place, and so much credit is spent.
	to := func(spent int, l ...int) func(c *api.Conn) {
		return func(c *api.Conn) {
			c.Credit.Used += spent
			c.Queue = nil
			for i, n := range l {
				c.Lanes[i].Out.Next = n
			}
		}
	}
	sent := func(name string, c api.Conn, by func(c *api.Conn), l ...api.Frame) flushCase {
		return flushCase{name, c, l, went(c, l, by)}
	}
	last := changed(four, func(c *api.Conn) { c.Lanes = c.Lanes[3:]; c.Lanes[0].Out.Data = text(5) })
	fin := func(c api.Conn, l ...int) api.Conn {
		return changed(c, func(c *api.Conn) {
			for _, i := range l {
				c.Lanes[i].Out.Fin = true
			}
		})
	}
	ended := func(by func(c *api.Conn), l ...int) func(c *api.Conn) {
		return func(c *api.Conn) {
			by(c)
			for _, i := range l {
				c.Lanes[i].Out.Ended = true
			}
		}
	}
	narrow := changed(writing(four, 90, 90), func(c *api.Conn) { c.Lanes[0].Out.Max = 30 })
	lost := changed(writing(four, 90, 90), func(c *api.Conn) {
		c.Lanes[0].Out.Next, c.Lanes[0].Out.Lost = 50, []api.Range{{Lo: 10, Hi: 19}, {Lo: 40, Hi: 49}}
	})
	found := func(spent, first, second int, ls ...api.Range) func(c *api.Conn) {
		return func(c *api.Conn) {
			to(spent, first, second)(c)
			c.Lanes[0].Out.Lost = ls
		}
	}
	checkFlush(t, []flushCase{
		sent("one lane", writing(four, 9), to(9, 9), stream(0, 0, 9, false)),
		sent("the second lane", writing(four, 0, 9), to(9, 0, 9), stream(1, 0, 9, false)),
		sent("a lane whose place isn't its number", last, to(5, 5), stream(3, 0, 5, false)),
		sent("all lanes", writing(four, 1, 2, 3, 4), to(10, 1, 2, 3, 4), stream(0, 0, 1, false), stream(1, 0, 2, false), stream(2, 0, 3, false), stream(3, 0, 4, false)),
		sent("much of a lane", writing(four, 500), to(120, 120), stream(0, 0, 120, false)),
		// 24, 125, 125: 102 are left; what a piece has beside its bytes does not count.
		sent("much of all lanes", writing(four, 500, 500, 500, 500), to(342, 120, 120, 102), stream(0, 0, 120, false), stream(1, 0, 120, false), stream(2, 0, 102, false)),
		sent("with the end", fin(writing(four, 9, 9), 0), ended(to(18, 9, 9), 0), stream(0, 0, 9, true), stream(1, 0, 9, false)),
		sent("the end alone", fin(four, 2), ended(to(0), 2), stream(2, 0, 0, true)),
		sent("up to the lane's own grant", narrow, to(120, 30, 90), stream(0, 0, 30, false), stream(1, 0, 90, false)),
		sent("up to the credit", credit(writing(four, 90, 90), 100), to(100, 90, 10), stream(0, 0, 90, false), stream(1, 0, 10, false)),
		sent("all credit for the first one", credit(writing(four, 90, 90), 90), to(90, 90), stream(0, 0, 90, false)),
		sent("no credit, but an end", credit(fin(writing(four, 90, 0), 1), 0), ended(to(0), 1), stream(1, 0, 0, true)),
		sent("what is lost first", lost, found(90, 50, 90, api.Range{Lo: 40, Hi: 49}), stream(0, 10, 10, false), stream(1, 0, 90, false)),
		sent("what is lost takes no credit", credit(lost, 0), found(0, 50, 0, api.Range{Lo: 40, Hi: 49}), stream(0, 10, 10, false)),
		sent("behind the queue", queueing(writing(four, 9), queueOf(2)...), to(9, 9), append(queueOf(2), stream(0, 0, 9, false))...),
		// One piece has room behind eleven frames; 24 and 99 are filled then.
		sent("behind eleven", queueing(writing(four, 9, 9), queueOf(11)...), to(9, 9), append(queueOf(11), stream(0, 0, 9, false))...),
		{"behind an ack and ten", queueing(oweAck(writing(four, 9, 9)), queueOf(10)...), append(append(one(theAck), queueOf(10)...), stream(0, 0, 9, false)),
			went(oweAck(writing(four, 9, 9)), append(append(one(theAck), queueOf(10)...), stream(0, 0, 9, false)), to(9, 9))},
		{"behind an ack", oweAck(writing(four, 9)), one(theAck, stream(0, 0, 9, false)), went(oweAck(writing(four, 9)), one(theAck, stream(0, 0, 9, false)), to(9, 9))},
		// 352 are filled: 24 are left.
		sent("behind much", queueing(writing(four, 90, 90), tokenOf(120), tokenOf(120), tokenOf(79)), to(24, 24), tokenOf(120), tokenOf(120), tokenOf(79), stream(0, 0, 24, false)),
		// 339 are filled: 32 bytes of a lane make that 375, and one is left; 33 make it 376, and none is.
		sent("one byte is left", queueing(fin(writing(four, 32, 90), 2), tokenOf(120), tokenOf(120), tokenOf(66)), to(33, 32, 1), tokenOf(120), tokenOf(120), tokenOf(66), stream(0, 0, 32, false), stream(1, 0, 1, false)),
		sent("none is left", queueing(fin(writing(four, 33, 90), 2), tokenOf(120), tokenOf(120), tokenOf(66)), to(33, 33), tokenOf(120), tokenOf(120), tokenOf(66), stream(0, 0, 33, false)),
		sent("an end, where one is left", queueing(fin(writing(four, 32), 2), tokenOf(120), tokenOf(120), tokenOf(66)), ended(to(32, 32), 2), tokenOf(120), tokenOf(120), tokenOf(66), stream(0, 0, 32, false), stream(2, 0, 0, true)),
	})
	nothing := []api.Conn{
		four,
		credit(writing(four, 90), 0),
		changed(four, func(c *api.Conn) { c.Lanes[0].Out = api.Sender{Data: text(9), Fin: true, Next: 9, Max: 9, Ended: true} }),
		changed(four, func(c *api.Conn) { c.Lanes[0].Out = api.Sender{Data: text(9), Next: 9, Max: 9} }),
		changed(four, func(c *api.Conn) { c.Lanes[0].Out = api.Sender{Data: text(9), Next: 5, Max: 5} }),
	}
	for _, c := range nothing {
		checkFlush(t, []flushCase{{"no piece", c, nil, c}})
	}
}

// TestFlushGreatest: P18.8, the greatest packet there can be has room.
func TestFlushGreatest(t *testing.T) {
	c := changed(begun(true), func(c *api.Conn) {
		c.Ids, c.Opened = api.MaxVar, api.MaxVar
		for i := range 4 {
			l := laneOf(api.MaxVar - 4 + i)
			l.Out = api.Sender{Data: text(600), Fin: true, Next: 300, Max: 600}
			c.Lanes = append(c.Lanes, l)
		}
		c.Pace.Window = 9000
	})
	for n := range 121 {
		d, _, l, e := Flush(queueing(c, tokenOf(120), tokenOf(n)), 0)
		size := sizeOf(l)
		if e != api.OK || Check(d) != api.OK || len(l) < 3 || size > api.MaxPacket || d.Space.Sent[0].Size != size || d.Pace.Flying != size {
			t.Errorf("Flush: %d bytes in %d frames, %d", size, len(l), e)
		}
	}
}
