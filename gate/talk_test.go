package gate

import (
	"bytes"
	"math/rand/v2"
	"slices"
	"testing"

	"spillway/api"
	"spillway/conn"
	"spillway/head"
)

// caller talks with an endpoint.
type caller struct {
	peer, from int
	word       uint64
	shown      []byte
	note       api.Note // the other end's, as far as it is known: Id, From, Peer and Key
	c          api.Conn
	asked      [][]byte
}

// begin is its first packet.
func (k *caller) begin() api.Mail {
	return api.Mail{Peer: k.peer, Data: initial(k.from, k.shown, helloOf(k.word))}
}

// hear a packet, and tell what is sent for it.
func (k *caller) hear(t *testing.T, now int, b []byte) []api.Mail {
	h, used, e := head.Decode(b)
	if e != api.OK || h.To != k.from {
		return nil
	}
	switch h.Kind {
	case api.Retry:
		if k.note.Id == 0 && len(k.shown) == 0 {
			k.shown = h.Token
			return mails(k.begin())
		}
	case api.Initial:
		_, l, e := Unpack(First(k.from), h, used, -1, b)
		if e == api.OK && k.note.Id == 0 {
			k.note = api.Note{Id: h.From, From: k.from, Peer: k.peer, Key: Session(k.word, Word(l[0].Data))}
		}
	case api.Short:
		n, l, e := Unpack(Way(k.note.Key, false), h, used, highest(k.c.Space.Heard), b)
		if e != api.OK {
			return nil
		}
		if c, _, e := conn.Hear(k.c, now, n, l); e == api.OK {
			k.c = c
		}
	}
	return k.flush(t, now)
}

// flush what there is to be sent.
func (k *caller) flush(t *testing.T, now int) []api.Mail {
	var out []api.Mail
	for range 3 {
		c, n, l, e := conn.Flush(k.c, now)
		mustBe(t, e)
		if len(l) == 0 || k.note.Id == 0 {
			break
		}
		out = append(out, api.Mail{Peer: k.peer, Data: short(k.note, n, k.c.Space.Top, l...)})
		k.c = c
	}
	return out
}

// ask something on a lane of its own, if one can be opened.
func (k *caller) ask(t *testing.T, now int, b []byte) []api.Mail {
	c, id, e := conn.Open(k.c)
	if e != api.OK {
		return nil
	}
	c, e = conn.Write(c, id, b, true)
	mustBe(t, e)
	k.c = c
	k.asked = append(k.asked, b)
	return k.flush(t, now)
}

// town of an endpoint and its callers, with a line that loses, doubles, spoils and turns round.
type town struct {
	t        *testing.T
	chance   *rand.Rand
	g        api.Gate
	callers  []*caller
	up, down []api.Mail
	came     [api.MaxPeers]int
	went     [api.MaxPeers]int
	trouble  int // of 100
}

// do something at the endpoint: what holds of each call is held against it.
func (w *town) do(name string, call func(g api.Gate) (api.Gate, []api.Mail, api.Errno)) api.Errno {
	w.t.Helper()
	before, roomy := deep(w.g), spacious(w.g)
	g, out, e := call(w.g)
	h, again, f := call(roomy)
	switch {
	case !same(w.g, before) || !same(roomy, before) || !spare(roomy):
		w.t.Fatalf("%s changes what is handed in", name)
	case e != f || !same(g, h) || !same(out, again):
		w.t.Fatalf("%s = %v, %v, %d, and then %v, %v, %d", name, g, out, e, h, again, f)
	case sharing(w.g, roomy, g, h, out, again):
		w.t.Fatalf("%s: memory is shared", name)
	case Check(g) != api.OK:
		w.t.Fatalf("%s = %+v, %d, which may not be", name, g, e)
	}
	for _, m := range out {
		w.went[m.Peer] += len(m.Data)
	}
	for i, tally := range g.Tally {
		if tally.Got != w.came[i] || tally.Sent != w.went[i] || !tally.Known && w.went[i] > 3*w.came[i] {
			w.t.Fatalf("%s: %v, but %d came and %d went", name, tally, w.came[i], w.went[i])
		}
	}
	w.g = g
	w.down = append(w.down, out...)
	return e
}

// meddle with what is on its way.
func (w *town) meddle(l []api.Mail) []api.Mail {
	if len(l) == 0 || w.chance.IntN(100) >= w.trouble {
		return l
	}
	at := w.chance.IntN(len(l))
	switch w.chance.IntN(4) {
	case 0:
		return slices.Delete(slices.Clone(l), at, at+1)
	case 1:
		return append(l, deep(l[at]))
	case 2:
		l[at].Data[w.chance.IntN(len(l[at].Data))] ^= byte(1 + w.chance.IntN(255))
	case 3:
		l[at], l[0] = l[0], l[at]
	}
	return l
}

// deliver all that is on its way.
func (w *town) deliver() {
	up, down := w.meddle(w.up), w.meddle(w.down)
	w.up, w.down = nil, nil
	for _, m := range up {
		w.came[m.Peer] += len(m.Data)
		w.do("Hear", func(g api.Gate) (api.Gate, []api.Mail, api.Errno) { return Hear(g, m.Peer, m.Data) })
	}
	for _, m := range down {
		for _, k := range w.callers {
			if k.peer == m.Peer {
				w.up = append(w.up, k.hear(w.t, w.g.Now, m.Data)...)
			}
		}
	}
}

// pass a tick.
func (w *town) pass() {
	n := 1 + w.chance.IntN(2)
	w.do("Tick", func(g api.Gate) (api.Gate, []api.Mail, api.Errno) { return Tick(g, n) })
	for _, k := range w.callers {
		c, e := conn.Tick(k.c, w.g.Now)
		mustBe(w.t, e)
		k.c = c
		w.up = append(w.up, k.flush(w.t, w.g.Now)...)
		if k.note.Id == 0 && w.chance.IntN(4) == 0 {
			w.up = append(w.up, k.begin())
		}
	}
}

// serve all that was asked whole, with the same bytes, the last one first.
func (w *town) serve() {
	for _, n := range w.g.Notes {
		for _, l := range n.Conn.Lanes {
			if !l.Over || l.Cut || l.Out.Fin {
				continue
			}
			b := bytes.Clone(l.Read)
			slices.Reverse(b)
			if e := w.do("Answer", func(g api.Gate) (api.Gate, []api.Mail, api.Errno) { return Answer(g, n.Id, l.Id, b) }); e != api.OK {
				w.t.Fatalf("Answer = %d", e)
			}
		}
	}
}

// answered tells how many lanes of a caller were answered whole; each must be what was asked, the last byte first.
func (w *town) answered(k *caller) int {
	count := 0
	for _, l := range k.c.Lanes {
		if !l.Over {
			continue
		}
		b := bytes.Clone(l.Read)
		slices.Reverse(b)
		if !bytes.Equal(b, k.asked[l.Id]) {
			w.t.Fatalf("%v was asked, %v answered", k.asked[l.Id], l.Read)
		}
		count++
	}
	return count
}

// townOf so many callers.
func townOf(t *testing.T, seed, callers, trouble int, retry bool) *town {
	w := &town{t: t, chance: rand.New(rand.NewPCG(uint64(seed), 19)), g: Begin(uint64(seed), retry), trouble: trouble}
	for i := range callers {
		c, e := conn.Begin(true, 0)
		mustBe(t, e)
		k := &caller{peer: w.chance.IntN(api.MaxPeers), from: 10 + i, word: w.chance.Uint64(), c: c}
		w.callers = append(w.callers, k)
		w.up = append(w.up, k.begin())
	}
	return w
}

// TestTalk: callers, no more than there is room for, ask, and are answered, whatever is lost, doubled, spoilt and turned round.
func TestTalk(t *testing.T) {
	for seed := range 24 {
		w := townOf(t, seed, 1+seed%3, seed*2, seed%2 == 0)
		// Where much is lost the window is small, and a packet that is greater is never sent: so pieces of three lanes must go into one.
		most := 150
		if seed > 0 {
			most = 40
		}
		done := func() bool {
			for _, k := range w.callers {
				if w.answered(k) < 3 {
					return false
				}
			}
			return true
		}
		for step := 0; !done(); step++ {
			if step == 400 {
				t.Fatalf("seed %d: it does not come to an end: %+v", seed, w.g)
			}
			for _, k := range w.callers {
				if len(k.asked) < 3 {
					w.up = append(w.up, k.ask(t, w.g.Now, text(w.chance.IntN(most)))...)
				}
			}
			w.deliver()
			w.serve()
			if step%2 == 1 {
				w.pass()
			}
		}
		if len(w.g.Notes) != len(w.callers) || w.g.Next != len(w.callers)+1 {
			t.Errorf("seed %d: behind all: %+v", seed, w.g)
		}
	}
}

// TestFlood: many callers, more than there is room for, and such as are no callers, come and go; nothing grows, and places are free again behind them.
func TestFlood(t *testing.T) {
	for seed := range 12 {
		w := townOf(t, seed, 5, 30, seed%3 == 0)
		for step := range 250 {
			for _, k := range w.callers {
				if w.chance.IntN(12) == 0 {
					w.up = append(w.up, k.ask(t, w.g.Now, text(w.chance.IntN(150)))...)
				}
				if w.chance.IntN(10) == 0 {
					w.up = append(w.up, k.begin())
				}
			}
			if w.chance.IntN(3) == 0 {
				w.up = append(w.up, w.junk())
			}
			w.deliver()
			if w.chance.IntN(3) == 0 {
				w.serve()
			}
			if step%2 == 0 {
				w.pass()
			}
			if step == 120 || step == 200 {
				w.leave()
			}
		}
	}
}

// junk is a packet of nobody.
func (w *town) junk() api.Mail {
	m := api.Mail{Peer: w.chance.IntN(api.MaxPeers)}
	switch w.chance.IntN(4) {
	case 0:
		m.Data = text(w.chance.IntN(400))
	case 1:
		m.Data = initial(w.chance.IntN(256), text(w.chance.IntN(20)), helloOf(w.chance.Uint64()))
	case 2:
		m.Data = append([]byte{64, byte(1 + w.chance.IntN(4)), 7}, text(30)...)
	default:
		if len(w.g.Notes) > 0 {
			n := w.g.Notes[w.chance.IntN(len(w.g.Notes))]
			m.Peer = n.Peer
			m.Data = short(n, n.Conn.Space.Next+w.chance.IntN(9), -1, api.Frame{Kind: api.Stream, Id: w.chance.IntN(6), Off: w.chance.IntN(400), Data: text(w.chance.IntN(20))})
		}
	}
	return m
}

// leave all, without a word: their places are free when they were idle long enough.
func (w *town) leave() {
	w.up, w.down = nil, nil
	for range 2 {
		w.do("Tick", func(g api.Gate) (api.Gate, []api.Mail, api.Errno) { return Tick(g, 60) })
	}
	if len(w.g.Notes) != 0 {
		w.t.Fatalf("they stay: %+v", w.g.Notes)
	}
	w.down = nil
	for _, k := range w.callers {
		k.note, k.shown, k.asked = api.Note{}, nil, nil
		k.c, _ = conn.Begin(true, w.g.Now)
	}
}

// TestSame: the same answers to the same arguments, in new memory, of which no two lists share any; and what is handed in stays as it is.
func TestSame(t *testing.T) {
	for i, g := range append(goodGates(), owing(), wordy(4000)) {
		g = spacious(g)
		before := deep(g)
		datas := [][]byte{nil, text(40), retried(7, 0, 5, 20).Data, initial(5, text(9), helloOf(9)), initial(77, nil, helloOf(9))}
		for _, n := range g.Notes {
			datas = append(datas, short(n, 9, -1, api.Frame{Kind: api.Stream, Id: 1, Off: 6, Data: text(4)}, api.Frame{Kind: api.Hello, Data: text(3)}), short(n, 9, -1, api.Frame{Kind: api.Close}))
		}
		for _, b := range datas {
			for peer := range 2 {
				b = spacious(b)
				beforeB := deep(b)
				for _, k := range callsWith(peer, b, 1+peer*59, 2+3*peer, peer) {
					h, out, e := k.do(g)
					again, more, f := k.do(g)
					if !same(g, before) || !spare(g) || !same(b, beforeB) || !spare(b) {
						t.Fatalf("endpoint %d: %s changes what is handed in", i, k.name)
					}
					if e != f || !same(h, again) || !same(out, more) {
						t.Fatalf("endpoint %d: %s answers %v, %v, %d, and then %v, %v, %d", i, k.name, h, out, e, again, more, f)
					}
					if sharing(g, b, h, out, again, more) {
						t.Fatalf("endpoint %d: %s shares memory", i, k.name)
					}
				}
			}
		}
	}
}

// TestHelpers: the helpers of these tests see what they are to see.
func TestHelpers(t *testing.T) {
	g := busy()
	if !sharing(g, g) || sharing(g, deep(g)) || !same(g, spacious(g)) || !spare(spacious(g)) {
		t.Error("the helpers are blind")
	}
	h := spacious(g)
	_ = append(h.Notes[1].Conn.Lanes[1].Out.Data, 1)
	if spare(h) {
		t.Error("what is written to spare room is not seen")
	}
}
