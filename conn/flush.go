package conn

import (
	"spillway/api"
	"spillway/flow"
	"spillway/frame"
	"spillway/pace"
	"spillway/sender"
	"spillway/space"
)

const (
	headRoom   = 24                 // bytes of a packet beside its frames
	mostPieces = api.MaxPacket - 24 // what a piece has beside its data has room behind these
	mostQueued = api.MaxPacket - 48 // behind these a lane can always send something
)

// packet that is being filled: its frames, and its size so far.
type packet struct {
	frames []api.Frame
	size   int
}

// Flush the next packet, if there is something to be told: its number and frames (P18.8).
func Flush(c api.Conn, now int) (api.Conn, int, []api.Frame, api.Errno) {
	if e := refuseTime(c, now); e != api.OK {
		return api.Conn{}, 0, nil, e
	}
	if c.Closed {
		n := end{Fresh(c)}
		last := n.Queue
		n.Queue = nil
		return n.quietly(last)
	}
	n := end{Fresh(c)}
	p := n.fill()
	if number, sent := n.send(p, now); sent {
		return n.Conn, number, p.frames, api.OK
	}
	// Nothing of what was filled in has happened then.
	n = end{Fresh(c)}
	return n.quietly(n.ack())
}

// quietly send frames, if there are any: nobody tells that he has heard of them.
func (n *end) quietly(l []api.Frame) (api.Conn, int, []api.Frame, api.Errno) {
	if len(l) == 0 {
		return n.Conn, 0, nil, api.OK
	}
	s, number, e := space.Quiet(n.Space)
	if e != api.OK {
		return api.Conn{}, 0, nil, e
	}
	n.Space = s
	n.Owes = false
	return n.Conn, number, l, api.OK
}

// ack is the frame that is owed, if one is.
func (n *end) ack() []api.Frame {
	// It does not refuse: the state was checked.
	heard, _ := space.Tell(n.Space)
	if !n.Owes || len(heard) == 0 {
		return nil
	}
	return []api.Frame{{Kind: api.Ack, Ranges: heard}}
}

// fill a packet: what is owed, what is queued, and pieces of lanes.
func (n *end) fill() packet {
	p := packet{size: headRoom}
	for _, f := range n.ack() {
		p.add(f)
	}
	for len(n.Queue) > 0 && p.hasRoom(n.Queue[0]) {
		p.add(n.Queue[0])
		n.Queue = n.Queue[1:]
	}
	for i := range n.Lanes {
		n.addPiece(&p, &n.Lanes[i])
	}
	return p
}

// addPiece adds the next piece of a lane, if there is one, and room for it.
func (n *end) addPiece(p *packet, lane *api.Lane) {
	room := min(api.MaxData, mostPieces-p.size)
	if len(p.frames) == api.MaxFrames || room <= 0 {
		return
	}
	// Neither refuses: the state was checked, and no more goes on than there is credit for.
	out, f, some, _ := sender.Piece(lane.Out, room, n.Credit.Max-n.Credit.Used)
	if !some {
		return
	}
	n.Credit, _ = flow.Spend(n.Credit, out.Next-lane.Out.Next)
	lane.Out = out
	f.Id = lane.Id
	p.add(f)
}

// send a packet that tells more than what is owed, if pace and space let it be sent.
func (n *end) send(p packet, now int) (int, bool) {
	if len(p.frames) == len(n.ack()) {
		return 0, false
	}
	slower, may, e := pace.Send(n.Pace, p.size)
	if e != api.OK || !may {
		return 0, false
	}
	s, number, e := space.Send(n.Space, now, p.size, p.frames)
	if e != api.OK {
		return 0, false
	}
	n.Pace, n.Space = slower, s
	n.Owes = false
	return number, true
}

// add a frame.
func (p *packet) add(f api.Frame) {
	p.frames = append(p.frames, f)
	p.size += measure(f)
}

// hasRoom tells whether a frame of the Queue may go with those that are there, so that a piece may, too.
func (p *packet) hasRoom(f api.Frame) bool {
	return len(p.frames) < api.MaxFrames-1 && p.size+measure(f) <= mostQueued
}

// measure how many bytes a frame, which was checked, has.
func measure(f api.Frame) int {
	b, _ := frame.Encode(f)
	return len(b)
}
