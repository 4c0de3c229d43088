package conn

import (
	"bytes"
	"math/rand/v2"
	"testing"

	"spillway/api"
)

// letter is a packet on its way.
type letter struct {
	up     bool
	number int
	l      []api.Frame
}

// talk of two ends over a line that loses, doubles and turns round.
type talk struct {
	t      *testing.T
	chance *rand.Rand
	loss   int // of 100
	now    int
	client api.Conn
	server api.Conn
	way    []letter
}

// flush both ends till they are still.
func (k *talk) flush() {
	for _, up := range []bool{true, false} {
		c := &k.server
		if up {
			c = &k.client
		}
		for {
			d, n, l, e := Flush(*c, k.now)
			if e != api.OK || Check(d) != api.OK {
				k.t.Fatalf("Flush = %+v, %d", d, e)
			}
			if len(l) == 0 {
				break
			}
			*c = d
			k.way = append(k.way, letter{up, n, l})
			if k.chance.IntN(100) < 10 {
				k.way = append(k.way, letter{up, n, l})
			}
		}
	}
}

// deliver all that is on its way, in any order, but for what is lost.
func (k *talk) deliver() {
	l := k.way
	k.way = nil
	k.chance.Shuffle(len(l), func(i, j int) { l[i], l[j] = l[j], l[i] })
	for _, x := range l {
		if k.chance.IntN(100) < k.loss {
			continue
		}
		c := &k.client
		if x.up {
			c = &k.server
		}
		d, _, e := Hear(*c, k.now, x.number, x.l)
		if e != api.OK || d.Closed || Check(d) != api.OK {
			k.t.Fatalf("Hear(%v) = %+v, %d", x, d, e)
		}
		*c = d
	}
}

// pass a tick.
func (k *talk) pass() {
	k.now++
	for _, c := range []*api.Conn{&k.client, &k.server} {
		d, e := Tick(*c, k.now)
		if e != api.OK || d.Closed || Check(d) != api.OK {
			k.t.Fatalf("Tick = %+v, %d", d, e)
		}
		*c = d
	}
}

// until something holds, time passes.
func (k *talk) until(holds func() bool) {
	for range 2000 {
		if holds() {
			return
		}
		k.flush()
		k.deliver()
		k.pass()
	}
	k.t.Fatalf("it does not come to an end: %+v\n%+v", k.client, k.server)
}

// write to a lane of an end.
func (k *talk) write(c *api.Conn, id int, b []byte) {
	d, e := Write(*c, id, b, true)
	mustBe(k.t, e)
	*c = d
}

// whole tells whether all of a lane was read, and whether it is what was written.
func (k *talk) whole(c api.Conn, id int, want []byte) bool {
	for _, l := range c.Lanes {
		if l.Id != id || !l.Over {
			continue
		}
		if !bytes.Equal(l.Read, want) {
			k.t.Fatalf("lane %d: %d bytes were read, %d were written", id, len(l.Read), len(want))
		}
		return true
	}
	return false
}

// retired tells whether a lane of an end could be retired.
func (k *talk) retired(c *api.Conn, id int) bool {
	d, e := Retire(*c, id)
	if e == api.OK {
		*c = d
	}
	return e == api.OK
}

// TestTalk: lanes are opened, asked and answered on, and retired, one by one, over lines that lose more and more; far more of them, and more bytes, than may be at once.
func TestTalk(t *testing.T) {
	for seed := range 30 {
		k := &talk{t: t, chance: rand.New(rand.NewPCG(18, uint64(seed))), loss: seed, client: begun(true), server: begun(false)}
		for id := range 12 {
			ask, answer := text(k.chance.IntN(600)), text(k.chance.IntN(300))
			k.until(func() bool {
				d, got, e := Open(k.client)
				if e == api.OK {
					k.client = d
				}
				return e == api.OK && got == id
			})
			k.write(&k.client, id, ask)
			k.until(func() bool { return k.whole(k.server, id, ask) })
			k.write(&k.server, id, answer)
			k.until(func() bool { return k.whole(k.client, id, answer) })
			k.until(func() bool { return k.retired(&k.client, id) })
			k.until(func() bool { return k.retired(&k.server, id) })
		}
		if len(k.client.Lanes) != 0 || len(k.server.Lanes) != 0 || k.server.Grant != 16 || k.client.Ids < 12 {
			t.Errorf("seed %d: behind all: %+v, %+v", seed, k.client, k.server)
		}
	}
}

// TestTalkCloses: what closes one end is told to the other one.
func TestTalkCloses(t *testing.T) {
	k := &talk{t: t, chance: rand.New(rand.NewPCG(18, 99)), client: begun(true), server: begun(false)}
	k.server, _, _ = Hear(k.server, 1, 9, one(api.Frame{Kind: api.Stream, Id: 5}))
	d, n, l, e := Flush(k.server, 1)
	mustBe(t, e)
	if c, fresh, e := Hear(k.client, 1, n, l); !fresh || e != api.OK || !c.Closed || c.Code != int(api.ErrFlow) || len(c.Queue) != 0 {
		t.Errorf("the client is told %v: %+v", l, c)
	}
	if _, _, l, e := Flush(d, 1); len(l) != 0 || e != api.OK {
		t.Errorf("it is told twice: %v", l)
	}
}

// some number: mostly a small one, or at a bound.
func someNumber(chance *rand.Rand) int {
	l := []int{0, 1, 2, 3, 4, 5, 7, 20, 119, 120, 299, 300, 301, 700, api.MaxVar - 1, api.MaxVar}
	if chance.IntN(3) > 0 {
		return chance.IntN(6)
	}
	return l[chance.IntN(len(l))]
}

// someFrame that may be, mostly.
func someFrame(chance *rand.Rand, next int) api.Frame {
	f := retold()[chance.IntN(15)]
	if f.Kind == api.Close && chance.IntN(8) > 0 {
		f = api.Frame{Kind: api.Stream}
	}
	if f.Id > 0 || f.Kind == api.Stream {
		f.Id = chance.IntN(4)
		if chance.IntN(60) == 0 {
			f.Id = someNumber(chance)
		}
	}
	if f.Off > 0 || f.Kind == api.Stream {
		f.Off = someNumber(chance) % 310
		if chance.IntN(60) == 0 {
			f.Off = someNumber(chance)
		}
	}
	if f.Kind == api.Stream {
		f.Data, f.Fin = text(chance.IntN(30)), chance.IntN(9) == 0
	}
	if f.Kind == api.Ack {
		hi := chance.IntN(next + 1)
		f.Ranges = []api.Range{{Lo: chance.IntN(hi + 1), Hi: hi}}
		if chance.IntN(3) > 0 && next > 0 {
			f.Ranges = []api.Range{{Lo: next - 1, Hi: next - 1}}
		}
	}
	return f
}

// step of an end by chance: its results, and what was refused.
func step(chance *rand.Rand, c api.Conn, now, number int) ([]any, api.Errno) {
	switch chance.IntN(10) {
	case 0:
		d, id, e := Open(c)
		return []any{d, id}, e
	case 1:
		d, e := Write(c, chance.IntN(4), text(chance.IntN(60)), chance.IntN(4) == 0)
		return []any{d}, e
	case 2:
		d, e := Retire(c, chance.IntN(4))
		return []any{d}, e
	case 3:
		d, e := Tick(c, now)
		return []any{d}, e
	case 4, 5, 6:
		d, n, l, e := Flush(c, now)
		return []any{d, n, l}, e
	}
	var l []api.Frame
	for range chance.IntN(5) {
		l = append(l, someFrame(chance, c.Space.Next))
	}
	d, fresh, e := Hear(c, now, number, l)
	return []any{d, fresh}, e
}

// TestChance: whatever is heard, written and flushed, what comes of it may be, is new memory, and hangs on nothing else.
func TestChance(t *testing.T) {
	for seed := range uint64(400) {
		chance := rand.New(rand.NewPCG(seed, 18))
		c := begun(seed%2 == 0)
		now, closed := 0, false
		for number := range 60 {
			now += chance.IntN(4)
			s := chance.Uint64()
			before := deep(c)
			out, e := step(rand.New(rand.NewPCG(s, 1)), c, now, number)
			again, f := step(rand.New(rand.NewPCG(s, 1)), spacious(before), now, number)
			switch {
			case !same(c, before):
				t.Fatalf("seed %d, step %d: what is handed in is changed", seed, number)
			case e != f || !sameAll(out, again):
				t.Fatalf("seed %d, step %d: %v, %d, and then %v, %d", seed, number, out, e, again, f)
			case sharing(append(out, c)...):
				t.Fatalf("seed %d, step %d: memory is shared: %v", seed, number, out)
			case e != api.OK && !nothing(out):
				t.Fatalf("seed %d, step %d: refused %d, but %v", seed, number, e, out)
			}
			if e != api.OK {
				continue
			}
			c = out[0].(api.Conn)
			if Check(c) != api.OK || closed && !c.Closed || c.Closed && (len(c.Lanes) > 0 || c.Owes) {
				t.Fatalf("seed %d, step %d: %+v", seed, number, c)
			}
			closed = c.Closed
		}
	}
}

func sameAll(a, b []any) bool {
	return same(struct{ L []any }{deepAll(a)}, struct{ L []any }{deepAll(b)})
}
