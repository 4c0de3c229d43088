package gate

import (
	"slices"

	"spillway/api"
	"spillway/conn"
	"spillway/head"
	"spillway/hello"
	"spillway/lock"
	"spillway/tally"
	"spillway/token"
)

// atOnce is how many packets of a note are sent at once, at most.
const atOnce = 3

// unheard stands for the highest number of one of whom nothing was heard.
const unheard = -1

// desk at which an endpoint is worked at: its lists are its own. Beside it lies what is sent.
type desk struct {
	api.Gate
	out []api.Mail
}

// deskOf an endpoint, in new memory.
func deskOf(g api.Gate) *desk {
	g.Notes = slices.Clone(g.Notes)
	for i := range g.Notes {
		g.Notes[i].Conn = conn.Fresh(g.Notes[i].Conn)
	}
	return &desk{Gate: g}
}

// note that is meant; nil, if there is none.
func (d *desk) note(meant func(n api.Note) bool) *api.Note {
	at := slices.IndexFunc(d.Notes, meant)
	if at < 0 {
		return nil
	}
	return &d.Notes[at]
}

// send bytes to an address, if they may be sent (P19.6).
func (d *desk) send(peer int, b []byte) bool {
	t, e := tally.Send(d.Tally[peer], len(b))
	if e != api.OK {
		return false
	}
	d.Tally[peer] = t
	d.out = append(d.out, api.Mail{Peer: peer, Data: b})
	return true
}

// know an address: it does not refuse, for its tally was checked.
func (d *desk) know(peer int) {
	d.Tally[peer], _ = tally.Know(d.Tally[peer])
}

// hear bytes that were counted (P19.6).
func (d *desk) hear(peer int, b []byte) api.Errno {
	h, used, e := head.Decode(b)
	switch {
	case e != api.OK:
		return e
	case h.Kind == api.Initial:
		return d.hearInitial(peer, h, used, b)
	case h.Kind == api.Short:
		return d.hearShort(peer, h, used, b)
	}
	return api.ErrKind
}

// hearInitial hears a first packet, perhaps once more (P19.9).
func (d *desk) hearInitial(peer int, h api.Head, used int, b []byte) api.Errno {
	_, l, e := Unpack(First(h.From), h, used, unheard, b)
	if e != api.OK {
		return e
	}
	word, some := hello.Find(l)
	if !some {
		return api.ErrForm
	}
	n := d.note(func(n api.Note) bool { return n.Peer == peer && n.From == h.From })
	if n == nil {
		if e := d.admit(peer, h); e != api.OK {
			return e
		}
		n = d.add(peer, h.From, Word(word))
	}
	d.greet(*n)
	return api.OK
}

// admit one who is not known yet, if he shows what must be shown, and there is room.
func (d *desk) admit(peer int, h api.Head) api.Errno {
	if d.Retry || len(d.Notes) == api.MaxConns-1 {
		if e := token.Check(d.Secret, peer, d.Now, h.Token); e != api.OK {
			d.retry(peer, h.From)
			return e
		}
		d.know(peer)
	}
	if len(d.Notes) == api.MaxConns || d.Next > mostIds {
		d.Shed = min(d.Shed+1, api.MaxTime)
		return api.ErrFull
	}
	return api.OK
}

// retry is what one is told who must show a token: here is one.
func (d *desk) retry(peer, to int) {
	// Neither refuses: the time was checked, and a head was read with this number.
	shown, _ := token.Make(d.Secret, peer, d.Now)
	b, _ := head.Encode(api.Head{Kind: api.Retry, To: to, Token: shown})
	d.send(peer, b)
}

// add a note of one who was admitted, and told his word.
func (d *desk) add(peer, from int, word uint64) *api.Note {
	// It does not refuse: the time was checked.
	c, _ := conn.Begin(false, d.Now)
	key := Session(word, lock.Key(d.Secret, d.Next))
	d.Notes = append(d.Notes, api.Note{Id: d.Next, From: from, Peer: peer, Key: key, Conn: c})
	d.Next++
	return &d.Notes[len(d.Notes)-1]
}

// greet the other end of a note: it is told the endpoint's word.
func (d *desk) greet(n api.Note) {
	h := api.Head{Kind: api.Initial, To: n.From, From: n.Id}
	// It does not refuse: the numbers of a note may stand in a head.
	b, _ := Packet(First(n.From), h, 0, unheard, []api.Frame{hello.Frame(lock.Key(d.Secret, n.Id))})
	d.send(n.Peer, b)
}

// hearShort hears a packet of a connection (P19.10).
func (d *desk) hearShort(peer int, h api.Head, used int, b []byte) api.Errno {
	n := d.note(func(n api.Note) bool { return n.Id == h.To && n.Peer == peer })
	if n == nil {
		return api.ErrNone
	}
	number, l, e := Unpack(Way(n.Key, true), h, used, highest(n.Conn.Space.Heard), b)
	if e != api.OK {
		return e
	}
	// Only one who has read what was sent to this address has the key: the address is his.
	n.Ready = true
	d.know(peer)
	c, _, e := conn.Hear(n.Conn, d.Now, number, l)
	if e != api.OK {
		return e
	}
	n.Conn = c
	return api.OK
}

// highest number of a set.
func highest(set []api.Range) int {
	if len(set) == 0 {
		return unheard
	}
	return set[len(set)-1].Hi
}

// flush all notes; those that are closed go (P19.6).
func (d *desk) flush() {
	for i := range d.Notes {
		for range atOnce {
			if !d.flushNote(&d.Notes[i]) {
				break
			}
		}
	}
	d.Notes = slices.DeleteFunc(d.Notes, func(n api.Note) bool { return n.Conn.Closed })
}

// flushNote sends the next packet of a note: was one sent?
func (d *desk) flushNote(n *api.Note) bool {
	if !n.Ready {
		return false
	}
	c, number, l, e := conn.Flush(n.Conn, d.Now)
	if e != api.OK || len(l) == 0 {
		return false
	}
	h := api.Head{Kind: api.Short, To: n.From}
	b, e := Packet(Way(n.Key, false), h, number, n.Conn.Space.Top, l)
	if e != api.OK || !d.send(n.Peer, b) {
		return false
	}
	n.Conn = c
	return true
}
