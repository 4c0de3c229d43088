package client

import (
	"bytes"
	"math"
	"testing"

	"spillway/api"
	"spillway/conn"
	"spillway/lock"
)

// goodClients may be, at all bounds.
func goodClients() []api.Client {
	out := []api.Client{newcomer(), known(), queueing(known())}
	for _, by := range []func(c *api.Client){
		func(c *api.Client) { c.Peer = 0 },
		func(c *api.Client) { c.Peer = api.MaxPeers - 1 },
		func(c *api.Client) { c.Id = 0 },
		func(c *api.Client) { c.Id = 255 },
		func(c *api.Client) { c.Word = 0 },
		func(c *api.Client) { c.Word = math.MaxUint64 },
		func(c *api.Client) { c.Token = nil },
		func(c *api.Client) { c.Token = text(1) },
		func(c *api.Client) { c.Token = text(api.MaxData) },
		// A key that nobody knows of counts for nothing.
		func(c *api.Client) { c.To = 0 },
		func(c *api.Client) { c.To = 1 },
		func(c *api.Client) { c.To = 255 },
		func(c *api.Client) { c.Key = 0 },
		func(c *api.Client) { c.Key = math.MaxUint64 },
		func(c *api.Client) { c.Conn.Closed, c.Conn.Code = true, 3 },
		func(c *api.Client) { c.Conn = begunAt(api.MaxTime) },
	} {
		out = append(out, altered(known(), by))
	}
	return out
}

// breaks are what makes a client that may be one that may not.
func breaks() []func(c *api.Client) {
	out := []func(c *api.Client){
		func(c *api.Client) { *c = api.Client{} },
		func(c *api.Client) { c.Token = text(api.MaxData + 1) },
		func(c *api.Client) { c.Token = text(4000) },
		func(c *api.Client) { c.Conn = api.Conn{} },
		func(c *api.Client) { c.Conn = api.Conn{Client: true} },
		func(c *api.Client) { c.Conn.Client = false },
		func(c *api.Client) { c.Conn, _ = conn.Begin(false, 0) },
		func(c *api.Client) { c.Conn.Lanes[1].Id = 0 },
		func(c *api.Client) { c.Conn.Space.Top = 5 },
		func(c *api.Client) { c.Conn.Last = -1 },
		func(c *api.Client) { c.Conn.Queue = []api.Frame{{Kind: 3}} },
	}
	for i := range outside(0) {
		out = append(out,
			func(c *api.Client) { c.Peer = outside(api.MaxPeers - 1)[i] },
			func(c *api.Client) { c.Id = outside(255)[i] },
			func(c *api.Client) { c.To = outside(255)[i] })
	}
	return out
}

// call of this layer.
type call struct {
	name string
	do   func(c api.Client) (api.Client, int, [][]byte, api.Errno)
}

// callsWith are all calls that take a client and a time.
func callsWith(now int, b []byte) []call {
	return []call{
		{"Hear", func(c api.Client) (api.Client, int, [][]byte, api.Errno) {
			d, out, e := Hear(c, now, b)
			return d, 0, out, e
		}},
		{"Ask", func(c api.Client) (api.Client, int, [][]byte, api.Errno) { return Ask(c, now, b) }},
		{"Tick", func(c api.Client) (api.Client, int, [][]byte, api.Errno) {
			d, out, e := Tick(c, now)
			return d, 0, out, e
		}},
	}
}

// TestBegin: P20.1, a client that begins.
func TestBegin(t *testing.T) {
	for _, peer := range []int{0, 2, api.MaxPeers - 1} {
		for _, id := range []int{0, 1, 77, 255} {
			for _, word := range []uint64{0, 99, math.MaxUint64} {
				for _, now := range []int{0, 5, api.MaxTime} {
					want := api.Client{Peer: peer, Id: id, Word: word, Conn: begunAt(now)}
					if c, e := Begin(peer, id, word, now); !same(c, want) || e != api.OK || Check(c) != api.OK || c.Conn.Last != now || !c.Conn.Client {
						t.Errorf("Begin(%d, %d, %d, %d) = %+v, %d", peer, id, word, now, c, e)
					}
				}
			}
		}
	}
}

// TestBeginRefuses: P20.1, addresses, numbers and times that there are none of.
func TestBeginRefuses(t *testing.T) {
	refused := func(peer, id, now int) {
		t.Helper()
		if c, e := Begin(peer, id, 99, now); !same(c, api.Client{}) || e != api.ErrRange {
			t.Errorf("Begin(%d, %d, 99, %d) = %+v, %d, want ErrRange", peer, id, now, c, e)
		}
	}
	for i := range outside(0) {
		peer, id, now := outside(api.MaxPeers - 1)[i], outside(255)[i], outside(api.MaxTime)[i]
		refused(peer, 0, 0)
		refused(0, id, 0)
		refused(0, 0, now)
		refused(peer, id, now)
	}
}

// TestCheck: P20.2, clients that may be, and such that may not; all calls refuse those, ahead of all else.
func TestCheck(t *testing.T) {
	for i, c := range goodClients() {
		if e := Check(c); e != api.OK {
			t.Errorf("good client %d: Check = %d: %+v", i, e, c)
		}
	}
	for i, by := range breaks() {
		c := altered(known(), by)
		if e := Check(c); e != api.ErrState {
			t.Errorf("bad client %d: Check = %d, want ErrState", i, e)
		}
		if b, e := Hello(c); len(b) != 0 || e != api.ErrState {
			t.Errorf("bad client %d: Hello = %v, %d, want ErrState", i, b, e)
		}
		for _, now := range []int{0, -1} {
			for _, k := range callsWith(now, text(700)) {
				if d, lane, out, e := k.do(c); e != api.ErrState || !same(d, api.Client{}) || lane != 0 || len(out) != 0 {
					t.Errorf("bad client %d: %s = %+v, %d, %v, %d, want ErrState", i, k.name, d, lane, out, e)
				}
			}
		}
	}
}

// TestTimes: P20.4 to P20.6, when nothing can be: then the client that is told is a zero one, whatever else is wrong.
func TestTimes(t *testing.T) {
	for _, c := range []api.Client{newcomer(), queueing(known()), altered(known(), func(c *api.Client) { c.Conn.Closed = true })} {
		for _, b := range [][]byte{nil, text(401), text(700), retried(c, text(3)), welcome(c, 1, helloOf(5))} {
			for _, now := range outside(api.MaxTime) {
				for _, k := range callsWith(now, b) {
					if d, lane, out, e := k.do(c); e != api.ErrRange || !same(d, api.Client{}) || lane != 0 || len(out) != 0 {
						t.Errorf("%s at %d = %+v, %d, %v, %d, want ErrRange", k.name, now, d, lane, out, e)
					}
				}
			}
		}
		for _, now := range []int{0, api.MaxTime} {
			if _, _, e := Tick(c, now); e != api.OK {
				t.Errorf("Tick at %d = %d", now, e)
			}
		}
	}
}

// TestHello: P20.3, the first packet, whatever else the client knows.
func TestHello(t *testing.T) {
	want := packed(lock.Key(1, 7), 0, []byte{192, 0, 7, 0, 0}, []byte{6, 0, 8, 0, 0, 0, 0, 0, 0, 0, 99})
	if b, e := Hello(newcomer()); !bytes.Equal(b, want) || e != api.OK {
		t.Errorf("Hello = %v, %d, want %v", b, e, want)
	}
	for _, c := range goodClients() {
		for _, n := range []int{0, 1, 16, 63, 64, api.MaxData} {
			c.Token = text(n)
			if b, e := Hello(c); !bytes.Equal(b, greeting(c)) || e != api.OK {
				t.Errorf("Hello of %+v = %v, %d, want %v", c, b, e, greeting(c))
			}
		}
	}
}

// TestAsk: P20.5, bytes and the end, on a lane of their own, are sent as far as they may be.
func TestAsk(t *testing.T) {
	c := known()
	d, lane, out, e := Ask(c, 20, []byte("abc"))
	piece := api.Frame{Kind: api.Stream, Id: 2, Fin: true, Data: []byte("abc")}
	want := altered(c, func(c *api.Client) {
		k := &c.Conn
		k.Opened = 3
		k.Lanes = append(k.Lanes, api.Lane{Id: 2, In: api.Gather{Final: -1, Window: 300}, Out: api.Sender{Data: []byte("abc"), Fin: true, Next: 3, Max: 300, Ended: true}})
		k.Credit.Used = 8
		k.Pace.Flying += 31
		k.Space.Sent = append(k.Space.Sent, api.Parcel{Number: 5, Time: 20, Size: 31, Frames: []api.Frame{piece}})
		k.Space.Next = 6
	})
	if wantOut := [][]byte{shortUp(c, 5, piece)}; !same(d, want) || lane != 2 || !same(out, wantOut) || e != api.OK {
		t.Errorf("Ask = %+v, %d, %v, %d, want %+v, 2, %v", d, lane, out, e, want, wantOut)
	}
	// No bytes, and many, of which no more are sent than may be.
	for _, c := range []struct{ n, packets int }{{0, 1}, {120, 1}, {121, 2}, {200, 2}, {300, 3}, {600, 3}} {
		k := altered(known(), func(c *api.Client) { c.Conn.Lanes, c.Conn.Pace.Flying = nil, 0 })
		written, id, e := conn.Open(k.Conn)
		mustBe(t, e)
		written, e = conn.Write(written, id, text(c.n), true)
		mustBe(t, e)
		want, wantOut := flushed(t, altered(k, func(c *api.Client) { c.Conn = written }), 20, c.packets)
		if d, lane, out, e := Ask(k, 20, text(c.n)); !same(d, want) || lane != 2 || !same(out, wantOut) || e != api.OK {
			t.Errorf("Ask of %d bytes = %+v, %d, %d packets, %d, want %+v, 2, %d", c.n, d, lane, len(out), e, want, len(wantOut))
		}
	}
}

// TestAskUnknown: P20.5, who doesn't know the endpoint yet asks all the same, and sends it when he knows it.
func TestAskUnknown(t *testing.T) {
	c := newcomer()
	d, lane, out, e := Ask(c, 3, []byte("abc"))
	want := altered(c, func(c *api.Client) {
		c.Conn.Opened = 1
		c.Conn.Lanes = []api.Lane{{In: api.Gather{Final: -1, Window: 300}, Out: api.Sender{Data: []byte("abc"), Fin: true, Max: 300}}}
	})
	if !same(d, want) || lane != 0 || len(out) != 0 || e != api.OK {
		t.Errorf("Ask = %+v, %d, %v, %d, want %+v", d, lane, out, e, want)
	}
	for i := 1; i < 4; i++ {
		if d, lane, out, e = Ask(d, 3, nil); lane != i || len(out) != 0 || e != api.OK {
			t.Errorf("Ask = %d, %v, %d, want %d", lane, out, e, i)
		}
	}
	h, out, e := Hear(d, 4, welcome(c, 9, helloOf(5)))
	if len(out) != 1 || e != api.OK || h.To != 9 || h.Conn.Space.Next != 1 || !same(out[0], shortUp(h, 0, h.Conn.Space.Sent[0].Frames...)) || len(h.Conn.Space.Sent[0].Frames) != 4 {
		t.Errorf("Hear = %+v, %v, %d", h, out, e)
	}
}

// TestAskRefuses: P20.5, then the client is as it was, and nothing is sent, however much there is.
func TestAskRefuses(t *testing.T) {
	busy := queueing(known())
	with := func(by func(k *api.Conn)) api.Client {
		return altered(busy, func(c *api.Client) { by(&c.Conn) })
	}
	for i, c := range []struct {
		c api.Client
		n int
		e api.Errno
	}{
		{busy, 600, api.OK},
		{busy, 601, api.ErrFull},
		{newcomer(), 601, api.ErrFull},
		{busy, 4000, api.ErrFull},
		{with(func(k *api.Conn) { k.Closed = true }), 0, api.ErrDone},
		{with(func(k *api.Conn) { k.Closed, k.Ids, k.Grant = true, 0, 2 }), 601, api.ErrDone},
		{with(func(k *api.Conn) { k.Opened = 4 }), 0, api.ErrFull},
		{with(func(k *api.Conn) { k.Ids, k.Grant = 2, 9 }), 0, api.ErrFull},
		{with(func(k *api.Conn) {
			k.Opened, k.Ids = 4, 9
			k.Lanes = append(k.Lanes, api.Lane{Id: 2, In: k.Lanes[0].In}, api.Lane{Id: 3, In: k.Lanes[0].In})
		}), 0, api.ErrFull},
	} {
		mustBe(t, Check(c.c))
		d, lane, out, e := Ask(c.c, 20, text(c.n))
		if e != c.e || e != api.OK && (!same(d, c.c) || lane != 0 || len(out) != 0) || e == api.OK && len(out) == 0 {
			t.Errorf("case %d: Ask = %+v, %d, %v, %d, want nothing, %d", i, d, lane, out, e, c.e)
		}
	}
}

// TestTick: P20.6, time passes for the Conn: what is lost is told again, and who is idle is closed.
func TestTick(t *testing.T) {
	c := known() // it has sent at 14, and heard at 15
	for now := 15; now < 22; now++ {
		if d, out, e := Tick(c, now); !same(d, c) || len(out) != 0 || e != api.OK {
			t.Errorf("Tick at %d = %+v, %v, %d, want nothing", now, d, out, e)
		}
	}
	for _, now := range []int{22, 50, 74} {
		ticked, e := conn.Tick(c.Conn, now)
		mustBe(t, e)
		want, wantOut := flushed(t, altered(c, func(c *api.Client) { c.Conn = ticked }), now, 1)
		again := shortUp(c, 5, api.Frame{Kind: api.Stream, Id: 1, Off: 1, Fin: true, Data: text(2)[1:]})
		if d, out, e := Tick(c, now); !same(d, want) || !same(out, wantOut) || !same(out, [][]byte{again}) || e != api.OK {
			t.Errorf("Tick at %d = %+v, %v, %d, want %+v, %v", now, d, out, e, want, wantOut)
		}
	}
	closed := altered(queueing(c), func(c *api.Client) {
		c.Conn.Closed, c.Conn.Code = true, int(api.ErrOld)
		c.Conn.Lanes, c.Conn.Queue = nil, nil
	})
	for _, now := range []int{75, 76, api.MaxTime} {
		if d, out, e := Tick(queueing(c), now); !same(d, closed) || len(out) != 0 || e != api.OK {
			t.Errorf("Tick at %d = %+v, %v, %d, want %+v", now, d, out, e, closed)
		}
		if d, out, e := Tick(closed, now); !same(d, closed) || len(out) != 0 || e != api.OK {
			t.Errorf("Tick of a closed one at %d = %+v, %v, %d", now, d, out, e)
		}
	}
	// For who doesn't know the endpoint yet time passes all the same.
	if d, out, e := Tick(queueing(newcomer()), 59); !same(d, queueing(newcomer())) || len(out) != 0 || e != api.OK {
		t.Errorf("Tick = %+v, %v, %d, want nothing", d, out, e)
	}
	if d, out, e := Tick(newcomer(), 60); !d.Conn.Closed || d.Conn.Code != int(api.ErrOld) || len(out) != 0 || e != api.OK {
		t.Errorf("Tick = %+v, %v, %d, want a closed one", d, out, e)
	}
}

// TestSame: the same answers to the same arguments, in new memory, of which no two lists share any; and what is handed in stays as it is.
func TestSame(t *testing.T) {
	for i, c := range goodClients() {
		c = spacious(c)
		before := deep(c)
		datas := [][]byte{nil, text(40), text(601), retried(c, text(5)), welcome(c, 6, helloOf(9)), shortDown(c, 9, -1, api.Frame{Kind: api.Close}),
			shortDown(c, 9, -1, api.Frame{Kind: api.Stream, Id: 0, Off: 5, Data: text(4)}, api.Frame{Kind: api.Challenge, Code: 3}, api.Frame{Kind: api.Ack, Ranges: []api.Range{{Lo: 0, Hi: 0}}}, helloOf(3))}
		for _, b := range datas {
			b = spacious(b)
			beforeB := deep(b)
			for _, k := range callsWith(25, b) {
				d, lane, out, e := k.do(c)
				again, other, more, f := k.do(c)
				hello, g := Hello(c)
				switch {
				case !same(c, before) || !spare(c) || !same(b, beforeB) || !spare(b):
					t.Fatalf("client %d: %s changes what is handed in", i, k.name)
				case e != f || lane != other || !same(d, again) || !same(out, more) || g != api.OK:
					t.Fatalf("client %d: %s answers %+v, %d, %v, %d, and then %+v, %d, %v, %d", i, k.name, d, lane, out, e, again, other, more, f)
				case sharing(c, b, d, out, again, more, hello):
					t.Fatalf("client %d: %s shares memory", i, k.name)
				}
			}
		}
	}
}
