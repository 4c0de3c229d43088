package client

import (
	"bytes"

	"spillway/api"
	"spillway/conn"
	"spillway/gate"
	"spillway/head"
	"spillway/hello"
)

// atOnce is how many packets are sent at once, at most.
const atOnce = 3

// caller is a client that is being worked at: its lists are its own, and what is refused changes nothing of it. Beside it lies what is sent.
type caller struct {
	api.Client
	out [][]byte
}

// callerOf a client, in new memory.
func callerOf(c api.Client) *caller {
	c.Token = bytes.Clone(c.Token)
	c.Conn = conn.Fresh(c.Conn)
	return &caller{Client: c}
}

// hear bytes of the endpoint (P20.4).
func (k *caller) hear(now int, b []byte) api.Errno {
	if len(b) > api.MaxPacket {
		return api.ErrSize
	}
	h, used, e := head.Decode(b)
	switch {
	case e != api.OK:
		return e
	case h.To != k.Id:
		return api.ErrNone
	case h.Kind == api.Retry:
		return k.hearRetry(h, len(b)-used)
	case h.Kind == api.Initial:
		return k.hearInitial(now, h, used, b)
	}
	return k.hearShort(now, h, used, b)
}

// hearRetry hears a token, behind which so many bytes are left: it begins anew, and shows the token.
func (k *caller) hearRetry(h api.Head, left int) api.Errno {
	// One token is enough: else whoever sends such bytes could keep a client from ever getting on.
	if k.To != unknown || len(k.Token) > 0 || len(h.Token) == 0 || left > 0 {
		return api.ErrState
	}
	k.Token = h.Token
	// It does not refuse: such a token may stand in a head.
	b, _ := Hello(k.Client)
	k.out = append(k.out, b)
	return api.OK
}

// hearInitial hears the endpoint's number and word, by which both have a key.
func (k *caller) hearInitial(now int, h api.Head, used int, b []byte) api.Errno {
	_, l, e := gate.Unpack(gate.First(k.Id), h, used, unheard, b)
	switch {
	case e != api.OK:
		return e
	case k.To != unknown || h.From == unknown:
		return api.ErrTwice
	}
	word, some := hello.Find(l)
	if !some {
		return api.ErrForm
	}
	k.To, k.Key = h.From, gate.Session(k.Word, gate.Word(word))
	k.flush(now)
	return api.OK
}

// hearShort hears a packet of the connection.
func (k *caller) hearShort(now int, h api.Head, used int, b []byte) api.Errno {
	if k.To == unknown {
		return api.ErrState
	}
	number, l, e := gate.Unpack(gate.Way(k.Key, false), h, used, k.highest(), b)
	if e != api.OK {
		return e
	}
	c, _, e := conn.Hear(k.Conn, now, number, l)
	if e != api.OK {
		return e
	}
	k.Conn = c
	k.flush(now)
	return api.OK
}

// highest number of all that were heard of.
func (k *caller) highest() int {
	top := unheard
	for _, r := range k.Conn.Space.Heard {
		top = r.Hi
	}
	return top
}

// ask on a lane of its own, whose number is told (P20.5).
func (k *caller) ask(now int, b []byte) (int, api.Errno) {
	c, lane, e := conn.Open(k.Conn)
	if e != api.OK {
		return 0, e
	}
	c, e = conn.Write(c, lane, b, true)
	if e != api.OK {
		return 0, e
	}
	k.Conn = c
	k.flush(now)
	return lane, api.OK
}

// flush what there is to be sent, if it is known to whom (P20.3).
func (k *caller) flush(now int) {
	if k.To == unknown {
		return
	}
	for range atOnce {
		c, number, l, e := conn.Flush(k.Conn, now)
		if e != api.OK || len(l) == 0 {
			return
		}
		h := api.Head{Kind: api.Short, To: k.To}
		b, e := gate.Packet(gate.Way(k.Key, true), h, number, k.Conn.Space.Top, l)
		if e != api.OK {
			return
		}
		k.Conn = c
		k.out = append(k.out, b)
	}
}
