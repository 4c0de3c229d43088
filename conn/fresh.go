package conn

import (
	"bytes"
	"slices"

	"spillway/api"
)

// Fresh: one end like another one, in new memory (P18.3).
func Fresh(c api.Conn) api.Conn {
	c.Space.Sent = slices.Clone(c.Space.Sent)
	for i := range c.Space.Sent {
		c.Space.Sent[i].Frames = freshFrames(c.Space.Sent[i].Frames)
	}
	c.Space.Heard = slices.Clone(c.Space.Heard)
	c.Space.Skip = slices.Clone(c.Space.Skip)
	c.Lanes = slices.Clone(c.Lanes)
	for i := range c.Lanes {
		c.Lanes[i] = freshLane(c.Lanes[i])
	}
	c.Queue = freshFrames(c.Queue)
	return c
}

// freshLane is a lane in new memory.
func freshLane(l api.Lane) api.Lane {
	l.In.Held = slices.Clone(l.In.Held)
	for i := range l.In.Held {
		l.In.Held[i].Data = bytes.Clone(l.In.Held[i].Data)
	}
	l.Read = bytes.Clone(l.Read)
	l.Out.Data = bytes.Clone(l.Out.Data)
	l.Out.Lost = slices.Clone(l.Out.Lost)
	l.Out.Acked = slices.Clone(l.Out.Acked)
	return l
}

// freshFrames are frames in new memory.
func freshFrames(l []api.Frame) []api.Frame {
	l = slices.Clone(l)
	for i := range l {
		l[i].Ranges = slices.Clone(l[i].Ranges)
		l[i].Data = bytes.Clone(l[i].Data)
	}
	return l
}
