package client

import (
	"bytes"
	"math/rand/v2"
	"slices"
	"testing"

	"spillway/api"
	"spillway/gate"
)

// town of an endpoint and its clients, with a line that loses, doubles, spoils and turns round.
type town struct {
	t        *testing.T
	chance   *rand.Rand
	g        api.Gate
	clients  []api.Client
	asked    [][][]byte // by each client
	up, down []api.Mail
	trouble  int // of 100
}

// townOf so many clients.
func townOf(t *testing.T, seed, clients, trouble int, retry bool) *town {
	w := &town{t: t, chance: rand.New(rand.NewPCG(uint64(seed), 20)), g: gate.Begin(uint64(seed), retry), trouble: trouble}
	for i := range clients {
		c, e := Begin(w.chance.IntN(api.MaxPeers), 10+i, w.chance.Uint64(), 0)
		mustBe(t, e)
		w.clients = append(w.clients, c)
		w.greet(i)
	}
	w.asked = make([][][]byte, clients)
	return w
}

// greet the endpoint, perhaps once more.
func (w *town) greet(i int) {
	b, e := Hello(w.clients[i])
	mustBe(w.t, e)
	w.up = append(w.up, api.Mail{Peer: w.clients[i].Peer, Data: b})
}

// do something with a client: what holds of each call is held against it.
func (w *town) do(i int, name string, call func(c api.Client) (api.Client, int, [][]byte, api.Errno)) api.Errno {
	w.t.Helper()
	before, roomy := deep(w.clients[i]), spacious(w.clients[i])
	c, lane, out, e := call(w.clients[i])
	d, other, again, f := call(roomy)
	switch {
	case !same(w.clients[i], before) || !same(roomy, before) || !spare(roomy):
		w.t.Fatalf("%s changes what is handed in", name)
	case e != f || lane != other || !same(c, d) || !same(out, again):
		w.t.Fatalf("%s = %+v, %d, %v, %d, and then %+v, %d, %v, %d", name, c, lane, out, e, d, other, again, f)
	case sharing(w.clients[i], roomy, c, d, out, again):
		w.t.Fatalf("%s: memory is shared", name)
	case Check(c) != api.OK:
		w.t.Fatalf("%s = %+v, %d, which may not be", name, c, e)
	case e != api.OK && (!same(c, before) || len(out) != 0 || lane != 0):
		w.t.Fatalf("%s = %+v, %d, %v, %d, which changes something", name, c, lane, out, e)
	case len(out) > 3:
		w.t.Fatalf("%s sends %d packets", name, len(out))
	}
	for _, b := range out {
		if len(b) > api.MaxPacket {
			w.t.Fatalf("%s sends %d bytes", name, len(b))
		}
		w.up = append(w.up, api.Mail{Peer: c.Peer, Data: b})
	}
	w.clients[i] = c
	return e
}

// hear bytes, by each client of an address to whom they are.
func (w *town) hear(m api.Mail) {
	for i, c := range w.clients {
		if c.Peer == m.Peer {
			w.do(i, "Hear", func(c api.Client) (api.Client, int, [][]byte, api.Errno) {
				d, out, e := Hear(c, w.g.Now, m.Data)
				return d, 0, out, e
			})
		}
	}
}

// ask something, if a lane can be opened.
func (w *town) ask(i, most int) {
	b := text(w.chance.IntN(most))
	e := w.do(i, "Ask", func(c api.Client) (api.Client, int, [][]byte, api.Errno) { return Ask(c, w.g.Now, b) })
	if e == api.OK {
		w.asked[i] = append(w.asked[i], b)
	}
}

// meddle with what is on its way.
func (w *town) meddle(l []api.Mail) []api.Mail {
	if len(l) == 0 || w.chance.IntN(100) >= w.trouble {
		return l
	}
	at := w.chance.IntN(len(l))
	switch w.chance.IntN(4) {
	case 0:
		return slices.Delete(slices.Clone(l), at, at+1)
	case 1:
		return append(l, deep(l[at]))
	case 2:
		l[at].Data[w.chance.IntN(len(l[at].Data))] ^= byte(1 + w.chance.IntN(255))
	case 3:
		l[at], l[0] = l[0], l[at]
	}
	return l
}

// deliver all that is on its way.
func (w *town) deliver() {
	up, down := w.meddle(w.up), w.meddle(w.down)
	w.up, w.down = nil, nil
	for _, m := range up {
		g, out, _ := gate.Hear(w.g, m.Peer, m.Data)
		w.g, w.down = g, append(w.down, out...)
	}
	for _, m := range down {
		w.hear(m)
	}
}

// pass a tick, or two.
func (w *town) pass() {
	g, out, e := gate.Tick(w.g, 1+w.chance.IntN(2))
	mustBe(w.t, e)
	w.g, w.down = g, append(w.down, out...)
	for i := range w.clients {
		w.do(i, "Tick", func(c api.Client) (api.Client, int, [][]byte, api.Errno) {
			d, out, e := Tick(c, w.g.Now)
			return d, 0, out, e
		})
		if w.clients[i].To == 0 && w.chance.IntN(4) == 0 {
			w.greet(i)
		}
	}
}

// turned bytes: the last one first.
func turned(b []byte) []byte {
	b = bytes.Clone(b)
	slices.Reverse(b)
	return b
}

// serve all that was asked whole, with the same bytes, the last one first.
func (w *town) serve() {
	for _, n := range w.g.Notes {
		for _, l := range n.Conn.Lanes {
			if !l.Over || l.Cut || l.Out.Fin {
				continue
			}
			g, out, e := gate.Answer(w.g, n.Id, l.Id, turned(l.Read))
			mustBe(w.t, e)
			w.g, w.down = g, append(w.down, out...)
		}
	}
}

// answered tells how many lanes of a client were answered whole; each must be what was asked, the last byte first.
func (w *town) answered(i int) int {
	count := 0
	for _, l := range w.clients[i].Conn.Lanes {
		if !l.Over {
			continue
		}
		if !bytes.Equal(turned(l.Read), w.asked[i][l.Id]) {
			w.t.Fatalf("%v was asked, %v answered", w.asked[i][l.Id], l.Read)
		}
		count++
	}
	return count
}

// TestTalk: clients, no more than there is room for, ask, and are answered, whatever is lost, doubled, spoilt and turned round.
func TestTalk(t *testing.T) {
	for seed := range 24 {
		w := townOf(t, seed, 1+seed%3, seed*2, seed%2 == 0)
		// Where much is lost the window is small, and a packet that is greater is never sent: so pieces of three lanes must go into one.
		most := 150
		if seed > 0 {
			most = 40
		}
		done := func() bool {
			for i := range w.clients {
				if w.answered(i) < 3 {
					return false
				}
			}
			return true
		}
		for step := 0; !done(); step++ {
			if step == 400 {
				t.Fatalf("seed %d: it does not come to an end: %+v", seed, w.clients)
			}
			for i := range w.clients {
				if len(w.asked[i]) < 3 {
					w.ask(i, most)
				}
			}
			w.deliver()
			w.serve()
			if step%2 == 1 {
				w.pass()
			}
		}
		for i, c := range w.clients {
			at := slices.IndexFunc(w.g.Notes, func(n api.Note) bool { return n.Id == c.To })
			if at < 0 || w.g.Notes[at].Key != c.Key || w.g.Notes[at].From != c.Id || w.g.Notes[at].Peer != c.Peer || (len(c.Token) > 0) != w.g.Retry && len(w.clients) < 3 {
				t.Errorf("seed %d: client %d: %+v is not one of %+v", seed, i, c, w.g.Notes)
			}
		}
	}
}

// TestFlood: whoever likes sends clients whatever he likes, rightly sealed or not; they stay as they may be, and nothing grows.
func TestFlood(t *testing.T) {
	for seed := range 10 {
		w := townOf(t, seed, 4, 30, seed%3 == 0)
		for step := range 200 {
			for i, c := range w.clients {
				if c.Conn.Closed && w.chance.IntN(4) == 0 {
					w.renew(i)
				}
				if w.chance.IntN(12) == 0 {
					w.ask(i, 601)
				}
				if w.chance.IntN(10) == 0 {
					w.greet(i)
				}
				if w.chance.IntN(3) == 0 {
					w.down = append(w.down, w.junk(i))
				}
			}
			w.deliver()
			if w.chance.IntN(3) == 0 {
				w.serve()
			}
			if step%2 == 0 {
				w.pass()
			}
		}
	}
}

// renew a client: it begins anew, and knows nothing.
func (w *town) renew(i int) {
	c, e := Begin(w.clients[i].Peer, w.clients[i].Id, w.chance.Uint64(), w.g.Now)
	mustBe(w.t, e)
	w.clients[i], w.asked[i] = c, nil
	w.greet(i)
}

// junk is a packet to a client, of nobody, or of an endpoint that does not keep to anything.
func (w *town) junk(i int) api.Mail {
	c := w.clients[i]
	m := api.Mail{Peer: c.Peer}
	switch w.chance.IntN(6) {
	case 0:
		m.Data = text(w.chance.IntN(420))
	case 1:
		m.Data = append([]byte{byte(64 + w.chance.IntN(4)), byte(c.Id), 7}, text(w.chance.IntN(30))...)
	case 2:
		m.Data = retried(c, text(w.chance.IntN(20)))
	case 3:
		m.Data = welcome(c, w.chance.IntN(9), helloOf(w.chance.Uint64()))
	default:
		var l []api.Frame
		for range w.chance.IntN(4) {
			l = append(l, w.frame())
		}
		m.Data = shortDown(c, w.chance.IntN(200), -1, l...)
	}
	return m
}

// frame that may be, of some kind.
func (w *town) frame() api.Frame {
	id, off := w.chance.IntN(5), w.chance.IntN(700)
	switch w.chance.IntN(12) {
	case 0:
		return api.Frame{Kind: api.Ack, Ranges: []api.Range{{Lo: off / 100, Hi: off / 50}}}
	case 1:
		return api.Frame{Kind: api.Reset, Id: id, Off: off, Code: id}
	case 2:
		return api.Frame{Kind: api.Stop, Id: id, Code: off}
	case 3:
		return api.Frame{Kind: api.MaxOf, Id: id, Off: off}
	case 4:
		return api.Frame{Kind: api.MaxDataOf, Off: 2 * off}
	case 5:
		return api.Frame{Kind: api.MaxIds, Off: id + off/100}
	case 6:
		return api.Frame{Kind: api.Challenge, Code: off}
	case 7:
		if off < 100 {
			return api.Frame{Kind: api.Close, Code: off}
		}
		return api.Frame{Kind: api.Ping}
	}
	return api.Frame{Kind: api.Stream, Id: id, Off: off / 4, Fin: off < 40, Data: text(w.chance.IntN(60))}
}
