package conn

import (
	"slices"

	"spillway/api"
	"spillway/flow"
	"spillway/gather"
	"spillway/pace"
	"spillway/sender"
	"spillway/space"
)

// end of a connection that is being worked at: its lists are its own.
type end struct {
	api.Conn
}

// keep an answer of another layer in its place, unless it was refused.
func keep[T any](place *T) func(T, api.Errno) api.Errno {
	return func(answer T, e api.Errno) api.Errno {
		if e == api.OK {
			*place = answer
		}
		return e
	}
}

// lane with a number; nil, if it is not there (any more).
func (n *end) lane(id int) *api.Lane {
	for i := range n.Lanes {
		if n.Lanes[i].Id == id {
			return &n.Lanes[i]
		}
	}
	return nil
}

// open the next lane, if there is room for it.
func (n *end) open() api.Errno {
	if len(n.Lanes) == api.MaxStreams {
		return api.ErrFull
	}
	// It does not refuse such a window.
	in, _ := gather.Begin(api.MaxWindow)
	n.Lanes = append(n.Lanes, api.Lane{Id: n.Opened, In: in, Out: api.Sender{Max: api.MaxWindow}})
	n.Opened++
	return api.OK
}

// queued is the place of the first frame in the Queue with the Kind and the Id of another one, or -1.
func (n *end) queued(f api.Frame) int {
	return slices.IndexFunc(n.Queue, func(q api.Frame) bool {
		return q.Kind == f.Kind && q.Id == f.Id
	})
}

// tell a frame: what is newer takes the place of what it makes void.
func (n *end) tell(f api.Frame) api.Errno {
	// Each challenge waits for a response of its own.
	if at := n.queued(f); at >= 0 && f.Kind != api.Response {
		n.Queue[at] = f
		return api.OK
	}
	if len(n.Queue) == api.MaxQueue {
		return api.ErrFull
	}
	n.Queue = append(n.Queue, f)
	return api.OK
}

// shut the connection, without a word.
func (n *end) shut(code int) {
	n.Closed, n.Code = true, code
	n.Lanes, n.Queue, n.Owes = nil, nil, false
}

// fail for an error, if there is one: the other one is told why.
func (n *end) fail(e api.Errno) {
	if e == api.OK {
		return
	}
	n.shut(int(e))
	n.Queue = []api.Frame{{Kind: api.Close, Code: int(e)}}
}

// heard of packets (P18.12).
func (n *end) heard(l []api.Parcel) api.Errno {
	for _, p := range l {
		e := keep(&n.Pace)(pace.Heard(n.Pace, min(p.Size, n.Pace.Flying), p.Time))
		if e != api.OK {
			return e
		}
		for _, f := range p.Frames {
			lane := n.lane(f.Id)
			if f.Kind != api.Stream || lane == nil {
				continue
			}
			e := keep(&lane.Out)(sender.Heard(lane.Out, f.Off, len(f.Data), f.Fin))
			if e != api.OK {
				return e
			}
		}
	}
	return api.OK
}

// miss what was sent too long ago: it is lost (P18.9).
func (n *end) miss(now int) api.Errno {
	s, lost, e := space.Overdue(n.Space, now, api.Patience)
	if e != api.OK {
		return e
	}
	n.Space = s
	return n.lose(lost, now)
}

// lose packets, as is seen now (P18.12).
func (n *end) lose(l []api.Parcel, now int) api.Errno {
	for _, p := range l {
		e := keep(&n.Pace)(pace.Lost(n.Pace, min(p.Size, n.Pace.Flying), p.Time, now))
		if e != api.OK {
			return e
		}
		for _, f := range p.Frames {
			if e := n.again(f); e != api.OK {
				return e
			}
		}
	}
	return api.OK
}

// again is told, as it holds now, what a frame that was lost told, if it matters still.
func (n *end) again(f api.Frame) api.Errno {
	lane := n.lane(f.Id)
	switch f.Kind {
	case api.Stream:
		if lane == nil {
			return api.OK
		}
		return keep(&lane.Out)(sender.Lose(lane.Out, f.Off, len(f.Data), f.Fin))
	case api.Reset, api.Hello, api.Token, api.Done:
	case api.MaxDataOf:
		f.Off = n.Flow.Max
	case api.MaxIds:
		f.Off = n.Grant
	case api.MaxOf:
		if lane == nil || lane.Over {
			return api.OK
		}
		f.Off = lane.In.Window
	default:
		return api.OK
	}
	if n.queued(f) >= 0 {
		return api.OK
	}
	return n.tell(f)
}

// widen the windows of which little is left (P18.15).
func (n *end) widen() api.Errno {
	for i := range n.Lanes {
		if e := n.widenLane(&n.Lanes[i]); e != api.OK {
			return e
		}
	}
	if n.Flow.Max-n.Flow.Used >= api.MaxAll/2 {
		return api.OK
	}
	most := min(n.Flow.Used+api.MaxAll, api.MaxVar)
	if e := keep(&n.Flow)(flow.Grant(n.Flow, most)); e != api.OK {
		return e
	}
	return n.tell(api.Frame{Kind: api.MaxDataOf, Off: n.Flow.Max})
}

// widenLane widens the window of a lane, if little is left of it.
func (n *end) widenLane(lane *api.Lane) api.Errno {
	if lane.Over || lane.In.Window-lane.In.Done >= api.MaxWindow/2 {
		return api.OK
	}
	most := min(lane.In.Done+api.MaxWindow, api.MaxVar)
	if e := keep(&lane.In)(gather.Widen(lane.In, most)); e != api.OK {
		return e
	}
	return n.tell(api.Frame{Kind: api.MaxOf, Id: lane.Id, Off: lane.In.Window})
}
