package conn

import (
	"testing"

	"spillway/api"
)

// ack of packets from one number to another.
func ack(lo, hi int) []api.Frame {
	return one(api.Frame{Kind: api.Ack, Ranges: []api.Range{{Lo: lo, Hi: hi}}})
}

// flying is an end with such packets on their way, each with one frame, of 50 bytes, sent at 1, 2, ..
func flying(c api.Conn, l ...api.Frame) api.Conn {
	return changed(c, func(c *api.Conn) {
		c.Space.Next = len(l) + 6
		for i, f := range l {
			c.Space.Sent = append(c.Space.Sent, api.Parcel{Number: i, Time: i + 1, Size: 50, Frames: one(f)})
		}
		c.Pace.Flying = 50 * len(l)
	})
}

// landed is an end of whose packets none is on its way any more, with that number as Top.
func landed(top int, pace api.Pace, by func(c *api.Conn)) func(c *api.Conn) {
	return func(c *api.Conn) {
		c.Space.Sent, c.Space.Top, c.Pace = nil, top, pace
		by(c)
	}
}

// sending is an end with two lanes; of the second one, 40 of 50 bytes and no end were sent.
func sending() api.Conn {
	return changed(withLanes(false, 2), func(c *api.Conn) {
		c.Lanes[1].Out = api.Sender{Data: text(50), Fin: true, Next: 40, Max: 300}
	})
}

// TestAckHeard: P18.12, what was heard of is on its way no more, and its bytes are heard of.
func TestAckHeard(t *testing.T) {
	c := flying(sending(), stream(1, 0, 10, false), stream(1, 10, 10, false), stream(1, 20, 20, false))
	heard := func(l ...api.Range) func(c *api.Conn) {
		return func(c *api.Conn) { c.Lanes[1].Out.Acked = l }
	}
	left := func(flying, window int, top int, by func(c *api.Conn), l ...int) func(c *api.Conn) {
		return func(d *api.Conn) {
			d.Space.Top, d.Space.Sent = top, nil
			for _, n := range l {
				d.Space.Sent = append(d.Space.Sent, c.Space.Sent[n])
			}
			d.Pace.Flying, d.Pace.Window = flying, window
			by(d)
		}
	}
	ended := changed(c, func(c *api.Conn) {
		c.Lanes[1].Out = api.Sender{Data: text(40), Fin: true, Next: 40, Max: 300, Ended: true}
		c.Space.Sent[2].Frames[0].Fin = true
	})
	gone := changed(c, func(c *api.Conn) { c.Lanes = c.Lanes[:1] })
	light := changed(c, func(c *api.Conn) { c.Pace.Flying = 70 })
	later := changed(c, func(c *api.Conn) { c.Pace.Since = 2 })
	skip := changed(c, func(c *api.Conn) { c.Space.Skip = []int{5} })
	checkHear(t, []hearCase{
		{"the first", c, ack(0, 0), left(100, 450, 0, heard(api.Range{Lo: 0, Hi: 9}), 1, 2), api.OK},
		{"the second", c, ack(1, 1), left(100, 450, 1, heard(api.Range{Lo: 10, Hi: 19}), 0, 2), api.OK},
		{"all", c, ack(0, 2), left(0, 550, 2, heard(api.Range{Lo: 0, Hi: 39})), api.OK},
		{"two ranges", c, one(api.Frame{Kind: api.Ack, Ranges: []api.Range{{Lo: 2, Hi: 2}, {Lo: 0, Hi: 0}}}), left(50, 500, 2, heard(api.Range{Lo: 0, Hi: 9}, api.Range{Lo: 20, Hi: 39}), 1), api.OK},
		{"twice", c, append(ack(0, 0), ack(0, 0)...), left(100, 450, 0, heard(api.Range{Lo: 0, Hi: 9}), 1, 2), api.OK},
		{"with the end", ended, ack(2, 2), left(100, 450, 2, func(c *api.Conn) {
			c.Lanes[1].Out.Acked = []api.Range{{Lo: 20, Hi: 39}}
			c.Lanes[1].Out.Ended, c.Lanes[1].Out.Over = false, true
		}, 0, 1), api.OK},
		{"of a lane that went", gone, ack(0, 2), left(0, 550, 2, unchanged), api.OK},
		{"more than is flying", light, ack(0, 2), left(0, 470, 2, heard(api.Range{Lo: 0, Hi: 39})), api.OK},
		{"sent ahead of the last loss", later, ack(0, 2), left(0, 450, 2, heard(api.Range{Lo: 0, Hi: 39})), api.OK},
		{"never sent", c, ack(0, 9), unchanged, api.ErrAck},
		{"never sent, the next one", c, ack(9, 9), unchanged, api.ErrAck},
		{"left out", skip, ack(5, 5), unchanged, api.ErrAck},
		{"left out, among others", skip, ack(0, 6), unchanged, api.ErrAck},
		{"beside what was left out", skip, ack(0, 2), left(0, 550, 2, heard(api.Range{Lo: 0, Hi: 39})), api.OK},
	})
	// Other frames that were heard of tell nothing more.
	for _, f := range retold() {
		if f.Kind != api.Stream {
			checkHear(t, []hearCase{{"heard of", flying(sending(), f), ack(0, 0), landed(0, api.Pace{Window: 450, Since: -1}, unchanged), api.OK}})
		}
	}
}

// TestAckFails: P18.12 and P18.13, what the layers below refuse closes it; what was done ahead of that stays done.
func TestAckFails(t *testing.T) {
	// The second packet has bytes that were never sent.
	c := flying(sending(), stream(1, 0, 10, false), stream(1, 39, 2, false), stream(1, 20, 20, false))
	checkHear(t, []hearCase{
		{"heard of bytes that were never sent", c, ack(0, 2), func(c *api.Conn) {
			c.Space.Top, c.Space.Sent = 2, nil
			c.Pace.Flying, c.Pace.Window = 50, 500
		}, api.ErrAck},
		{"lost bytes that were never sent", c, ack(4, 4), func(d *api.Conn) {
			d.Space.Top, d.Space.Sent = 4, c.Space.Sent[2:]
			d.Pace = api.Pace{Window: 200, Thresh: 200, Flying: 50, Since: 5}
		}, api.ErrAck},
	})
}

// retold are frames of all kinds that a connection may have sent.
func retold() []api.Frame {
	return []api.Frame{
		{Kind: api.Padding},
		{Kind: api.Ping},
		{Kind: api.Ack, Ranges: []api.Range{{Lo: 3, Hi: 4}}},
		{Kind: api.Reset, Id: 1, Code: 5, Off: 6},
		{Kind: api.Stop, Id: 1, Code: 5},
		{Kind: api.Hello, Off: 5, Data: text(4)},
		{Kind: api.Token, Data: text(4)},
		{Kind: api.Stream, Id: 1, Data: text(4)},
		{Kind: api.MaxDataOf, Off: 5},
		{Kind: api.MaxOf, Id: 1, Off: 5},
		{Kind: api.MaxIds, Off: 2},
		{Kind: api.Challenge, Code: 9},
		{Kind: api.Response, Code: 9},
		{Kind: api.Close, Code: 9},
		{Kind: api.Done},
	}
}

// TestLose: P18.12, what of a lost packet is told again, as it holds now, and what is not.
func TestLose(t *testing.T) {
	base := changed(sending(), func(c *api.Conn) {
		c.Flow.Max, c.Grant, c.Lanes[1].In.Window = 777, 7, 333
	})
	again := map[int]api.Frame{
		api.Reset:     {Kind: api.Reset, Id: 1, Code: 5, Off: 6},
		api.Hello:     {Kind: api.Hello, Off: 5, Data: text(4)},
		api.Token:     {Kind: api.Token, Data: text(4)},
		api.MaxDataOf: {Kind: api.MaxDataOf, Off: 777},
		api.MaxOf:     {Kind: api.MaxOf, Id: 1, Off: 333},
		api.MaxIds:    {Kind: api.MaxIds, Off: 7},
		api.Done:      {Kind: api.Done},
	}
	halved := api.Pace{Window: 200, Thresh: 200, Since: 5}
	for _, f := range retold() {
		c := flying(base, f)
		g, ok := again[f.Kind]
		told := func(l ...api.Frame) func(c *api.Conn) {
			return landed(3, halved, func(c *api.Conn) { c.Queue = l })
		}
		queued := func(l ...api.Frame) api.Conn {
			return changed(c, func(c *api.Conn) { c.Queue = l })
		}
		switch {
		case f.Kind == api.Stream:
			checkHear(t, []hearCase{{"bytes", c, ack(3, 3), landed(3, halved, func(c *api.Conn) { c.Lanes[1].Out.Lost = []api.Range{{Lo: 0, Hi: 3}} }), api.OK}})
		case ok:
			other := g
			other.Id++
			alike := api.Frame{Kind: g.Kind, Id: g.Id, Off: 1, Code: 0}
			if g.Kind == api.Token || g.Kind == api.Done {
				alike.Off = 0
			}
			checkHear(t, []hearCase{
				{"told again", c, ack(3, 3), told(g), api.OK},
				{"behind others", queued(queueOf(11)...), ack(3, 3), told(append(queueOf(11), g)...), api.OK},
				{"no room", queued(queueOf(12)...), ack(3, 3), landed(3, halved, unchanged), api.ErrFull},
				{"queued already", queued(append(queueOf(5), alike)...), ack(3, 3), told(append(queueOf(5), alike)...), api.OK},
				{"queued already, and no room", queued(append(queueOf(11), alike)...), ack(3, 3), told(append(queueOf(11), alike)...), api.OK},
			})
			if g.Kind == api.Reset || g.Kind == api.MaxOf {
				checkHear(t, []hearCase{{"another lane's", queued(other), ack(3, 3), told(other, g), api.OK}})
			}
		default:
			checkHear(t, []hearCase{
				{"not told again", c, ack(3, 3), told(), api.OK},
				{"not told again, though there is no room", queued(queueOf(12)...), ack(3, 3), told(queueOf(12)...), api.OK},
			})
		}
	}
}

// TestLoseLane: P18.12, frames of lanes that are over, or not there any more.
func TestLoseLane(t *testing.T) {
	halved := api.Pace{Window: 200, Thresh: 200, Since: 5}
	gone := changed(sending(), func(c *api.Conn) { c.Lanes = c.Lanes[:1] })
	over := changed(sending(), func(c *api.Conn) { c.Lanes[1].Over = true })
	for _, f := range retold() {
		told := func(want ...api.Frame) func(c *api.Conn) {
			return landed(3, halved, func(c *api.Conn) { c.Queue = want })
		}
		switch f.Kind {
		case api.Stream:
			checkHear(t, []hearCase{
				{"bytes of one that went", flying(gone, f), ack(3, 3), told(), api.OK},
				{"bytes of one that is over", flying(over, f), ack(3, 3), landed(3, halved, func(c *api.Conn) { c.Lanes[1].Out.Lost = []api.Range{{Lo: 0, Hi: 3}} }), api.OK},
			})
		case api.MaxOf:
			checkHear(t, []hearCase{
				{"window of one that went", flying(gone, f), ack(3, 3), told(), api.OK},
				{"window of one that is over", flying(over, f), ack(3, 3), told(), api.OK},
			})
		case api.Reset:
			checkHear(t, []hearCase{
				{"reset of one that went", flying(gone, f), ack(3, 3), told(f), api.OK},
				{"reset of one that is over", flying(over, f), ack(3, 3), told(f), api.OK},
			})
		}
	}
}

// TestLoseMany: P18.12, packets and their frames one by one, those that were heard of first; the window shrinks but once.
func TestLoseMany(t *testing.T) {
	c := flying(sending(), stream(1, 0, 10, false), api.Frame{Kind: api.Done}, stream(1, 10, 10, false), stream(1, 20, 20, false))
	c.Space.Sent[0].Frames = append(c.Space.Sent[0].Frames, api.Frame{Kind: api.Token, Data: text(2)}, api.Frame{Kind: api.Done}, api.Frame{Kind: api.Token, Data: text(3)})
	want := func(c *api.Conn) {
		c.Space.Top, c.Space.Sent = 6, nil
		c.Lanes[1].Out.Acked, c.Lanes[1].Out.Lost = []api.Range{{Lo: 10, Hi: 19}}, []api.Range{{Lo: 0, Hi: 9}, {Lo: 20, Hi: 39}}
		c.Queue = one(api.Frame{Kind: api.Token, Data: text(2)}, api.Frame{Kind: api.Done})
		c.Pace = api.Pace{Window: 225, Thresh: 225, Since: 5}
	}
	ranges := one(api.Frame{Kind: api.Ack, Ranges: []api.Range{{Lo: 6, Hi: 6}, {Lo: 2, Hi: 2}}})
	light := changed(c, func(c *api.Conn) { c.Pace.Flying = 120 })
	checkHear(t, []hearCase{
		{"heard of first", c, ranges, want, api.OK},
		{"more than is flying", light, ranges, want, api.OK},
		// Bytes that are heard of, and lost by another packet, are heard of.
		{"heard of and lost", flying(sending(), stream(1, 0, 20, false), stream(1, 5, 5, false)), ack(1, 4), func(c *api.Conn) {
			c.Space.Top, c.Space.Sent = 4, nil
			c.Lanes[1].Out.Acked, c.Lanes[1].Out.Lost = []api.Range{{Lo: 5, Hi: 9}}, []api.Range{{Lo: 0, Hi: 4}, {Lo: 10, Hi: 19}}
			c.Pace = api.Pace{Window: 225, Thresh: 225, Since: 5}
		}, api.OK},
		// Grown by 50, and then halved.
		{"the end is lost", changed(flying(sending(), stream(1, 30, 10, true)), func(c *api.Conn) {
			c.Lanes[1].Out = api.Sender{Data: text(40), Fin: true, Next: 40, Max: 300, Ended: true}
		}), ack(3, 3), func(c *api.Conn) {
			c.Space.Top, c.Space.Sent = 3, nil
			c.Lanes[1].Out.Lost, c.Lanes[1].Out.Ended = []api.Range{{Lo: 30, Hi: 39}}, false
			c.Pace = api.Pace{Window: 200, Thresh: 200, Since: 5}
		}, api.OK},
	})
	// It is lost at Last, which may be behind the time at which it is heard.
	late := changed(flying(sending(), stream(1, 0, 10, false)), func(c *api.Conn) { c.Last = 40 })
	checkHear(t, []hearCase{{"later than now", late, ack(3, 3), func(c *api.Conn) {
		c.Space.Top, c.Space.Sent = 3, nil
		c.Lanes[1].Out.Lost = []api.Range{{Lo: 0, Hi: 9}}
		c.Pace = api.Pace{Window: 200, Thresh: 200, Since: 40}
	}, api.OK}})
}
