package conn

import (
	"spillway/api"
	"spillway/flow"
	"spillway/gather"
	"spillway/sender"
	"spillway/space"
)

// Hear a packet: was it new (P18.6)?
func Hear(c api.Conn, now, number int, l []api.Frame) (api.Conn, bool, api.Errno) {
	if e := refusePacket(c, now, l); e != api.OK {
		return api.Conn{}, false, e
	}
	n := end{Fresh(c)}
	s, fresh, e := space.Hear(n.Space, number)
	if e != api.OK {
		return api.Conn{}, false, e
	}
	n.Space = s
	if fresh {
		n.Last = max(n.Last, now)
		n.fail(n.hear(l))
	}
	return n.Conn, fresh, api.OK
}

// refusePacket refuses what can't be heard, whatever its number.
func refusePacket(c api.Conn, now int, l []api.Frame) api.Errno {
	if e := refuseTime(c, now); e != api.OK {
		return e
	}
	if len(l) > api.MaxFrames {
		return api.ErrRange
	}
	if e := wrong(l); e != api.OK {
		return e
	}
	if c.Closed {
		return api.ErrDone
	}
	return api.OK
}

// hear all frames of a new packet.
func (n *end) hear(l []api.Frame) api.Errno {
	for _, f := range l {
		if f.Kind == api.Close {
			n.shut(f.Code)
			return api.OK
		}
		// What only tells of other packets, or of nothing, need not be told of: else two ends would never be still.
		if f.Kind != api.Ack && f.Kind != api.Padding {
			n.Owes = true
		}
		if e := n.hearFrame(f); e != api.OK {
			return e
		}
	}
	return n.widen()
}

// hearFrame hears one frame, which is no Close (P18.11).
func (n *end) hearFrame(f api.Frame) api.Errno {
	switch f.Kind {
	case api.Stream, api.Reset, api.Stop, api.MaxOf:
		return n.hearNamed(f)
	case api.Ack:
		return n.hearAck(f.Ranges)
	case api.MaxDataOf:
		return keep(&n.Credit)(flow.Grant(n.Credit, f.Off))
	case api.MaxIds:
		if n.Client {
			n.Ids = max(n.Ids, f.Off)
		}
	case api.Challenge:
		return n.tell(api.Frame{Kind: api.Response, Code: f.Code})
	}
	return api.OK
}

// hearNamed hears a frame that names a lane (P18.10).
func (n *end) hearNamed(f api.Frame) api.Errno {
	if e := n.reachLane(f.Id); e != api.OK {
		return e
	}
	lane := n.lane(f.Id)
	if lane == nil {
		return api.OK
	}
	switch f.Kind {
	case api.Stream:
		return n.hearStream(lane, f)
	case api.Reset:
		return n.hearReset(lane, f.Off)
	case api.Stop:
		return n.hearStop(lane, f.Code)
	default:
		return keep(&lane.Out)(sender.Grant(lane.Out, f.Off))
	}
}

// reachLane opens lanes up to one that was named, if it may be named.
func (n *end) reachLane(id int) api.Errno {
	switch {
	case n.Client && id >= n.Opened:
		return api.ErrNone
	case !n.Client && id >= n.Grant:
		return api.ErrFlow
	}
	for n.Opened <= id {
		if e := n.open(); e != api.OK {
			return e
		}
	}
	return api.OK
}

// hearStream puts bytes of a lane in, and reads what is there.
func (n *end) hearStream(lane *api.Lane, f api.Frame) api.Errno {
	if lane.Cut {
		return api.OK
	}
	in, e := gather.Put(lane.In, f.Off, f.Data, f.Fin)
	if e != api.OK {
		return e
	}
	if e := keep(&n.Flow)(flow.Spend(n.Flow, reach(in)-reach(lane.In))); e != api.OK {
		return e
	}
	in, taken, all, e := gather.Take(in)
	if e != api.OK {
		return e
	}
	lane.In = in
	lane.Read = append(lane.Read, taken...)
	lane.Over = lane.Over || all
	if len(lane.Read) > mostRead {
		return api.ErrSize
	}
	return api.OK
}

// hearReset cuts a lane off at its final size.
func (n *end) hearReset(lane *api.Lane, size int) api.Errno {
	in := lane.In
	switch {
	case lane.Cut:
		return api.OK
	case size < reach(in) || in.Final >= 0 && in.Final != size:
		return api.ErrFinal
	case size > in.Window:
		return api.ErrFlow
	}
	if e := keep(&n.Flow)(flow.Spend(n.Flow, size-reach(in))); e != api.OK {
		return e
	}
	if n.Resets == api.MaxResets {
		return api.ErrFull
	}
	n.Resets++
	lane.Cut, lane.Over = true, true
	lane.In = api.Gather{Done: size, Final: size, Window: in.Window}
	return api.OK
}

// hearStop ends what is sent on a lane where it has come to.
func (n *end) hearStop(lane *api.Lane, code int) api.Errno {
	out := lane.Out
	if allOver(out) {
		return api.OK
	}
	sent := api.Sender{Data: make([]byte, out.Next), Fin: true, Next: out.Next, Max: out.Max, Ended: true}
	if e := keep(&lane.Out)(sender.Heard(sent, 0, out.Next, true)); e != api.OK {
		return e
	}
	return n.tell(api.Frame{Kind: api.Reset, Id: lane.Id, Off: out.Next, Code: code})
}

// hearAck hears which packets the other one has heard of (P18.12).
func (n *end) hearAck(l []api.Range) api.Errno {
	s, heard, lost, e := space.Acked(n.Space, l)
	if e != api.OK {
		return e
	}
	n.Space = s
	if e := n.heard(heard); e != api.OK {
		return e
	}
	return n.lose(lost, n.Last)
}

// reach is up to where anything has come.
func reach(g api.Gather) int {
	if len(g.Held) == 0 {
		return g.Done
	}
	last := g.Held[len(g.Held)-1]
	return last.Off + len(last.Data)
}
