package gate

import (
	"math"
	"testing"

	"spillway/api"
	"spillway/conn"
)

// begunAt is an endpoint's end that begins.
func begunAt(now int) api.Conn {
	c, _ := conn.Begin(false, now)
	return c
}

// noteOf a caller, of whom nothing was heard but his first packet, at 0.
func noteOf(id, peer, from int) api.Note {
	return api.Note{Id: id, From: from, Peer: peer, Key: uint64(id) * 1000, Conn: begunAt(0)}
}

// ready is a note of which a packet was heard.
func ready(n api.Note) api.Note {
	n.Ready = true
	n.Conn.Space.Heard = []api.Range{{Lo: 0, Hi: 4}}
	return n
}

// altered is an endpoint that is altered by hand.
func altered(g api.Gate, by func(g *api.Gate)) api.Gate {
	g = deep(g)
	by(&g)
	return g
}

// busy is an endpoint with three notes, of which the last one isn't ready; it has something in all of its lists.
func busy() api.Gate {
	g := api.Gate{Secret: 7, Now: 20, Next: 9, Shed: 2}
	g.Notes = []api.Note{ready(noteOf(2, 0, 5)), ready(noteOf(5, 1, 5)), noteOf(8, 1, 255)}
	for i := range g.Tally {
		g.Tally[i] = api.Tally{Known: i < 2, Got: 100, Sent: 200}
	}
	for i := range g.Notes {
		c := &g.Notes[i].Conn
		c.Space.Next, c.Last, c.Opened = 2, 15, 2
		c.Space.Sent = []api.Parcel{{Number: 1, Time: 14, Size: 60, Frames: []api.Frame{{Kind: api.Token, Data: text(6)}}}}
		c.Pace.Flying = 60
		c.Flow.Used = 9
		c.Lanes = []api.Lane{
			{Id: 0, In: api.Gather{Done: 5, Final: -1, Window: 300}, Read: text(5), Out: api.Sender{Max: 300}},
			{Id: 1, In: api.Gather{Done: 4, Final: 4, Window: 300}, Over: true, Read: text(4), Out: api.Sender{Data: text(2), Max: 300, Next: 2, Acked: []api.Range{{Lo: 0, Hi: 0}}}},
		}
		c.Queue = []api.Frame{}
	}
	return g
}

// goodGates may be, at all bounds.
func goodGates() []api.Gate {
	out := []api.Gate{Begin(0, false), Begin(7, true), busy()}
	for _, by := range []func(g *api.Gate){
		func(g *api.Gate) { g.Now = 0 },
		func(g *api.Gate) { g.Now = api.MaxTime },
		func(g *api.Gate) { g.Next = 256 },
		func(g *api.Gate) { g.Next, g.Notes = 1, nil },
		func(g *api.Gate) { g.Next, g.Notes = 256, nil },
		func(g *api.Gate) { g.Shed = 0 },
		func(g *api.Gate) { g.Shed = api.MaxTime },
		func(g *api.Gate) { g.Notes = g.Notes[1:] },
		func(g *api.Gate) { g.Notes[0].Id = 1 },
		func(g *api.Gate) { g.Notes[2].Id, g.Next = 255, 256 },
		func(g *api.Gate) { g.Notes[0].From = 0 },
		func(g *api.Gate) { g.Notes[0].From = 255 },
		func(g *api.Gate) { g.Notes[0].Peer = 3 },
		// Two of the same address, with the same number.
		func(g *api.Gate) { g.Notes[1].Peer = 0 },
		func(g *api.Gate) { g.Notes[1].Key = math.MaxUint64 },
		func(g *api.Gate) { g.Notes[0].Conn.Closed = true },
		func(g *api.Gate) { g.Tally[3] = api.Tally{} },
		func(g *api.Gate) { g.Tally[3] = api.Tally{Got: 10, Sent: 30} },
		func(g *api.Gate) { g.Tally[3] = api.Tally{Known: true, Got: api.MaxTime, Sent: api.MaxTime} },
	} {
		out = append(out, altered(busy(), by))
	}
	return out
}

// breaks are what makes an endpoint that may be one that may not.
func breaks() []func(g *api.Gate) {
	out := []func(g *api.Gate){
		func(g *api.Gate) { *g = api.Gate{} },
		func(g *api.Gate) { g.Next, g.Notes = 0, nil },
		func(g *api.Gate) { g.Next = 257 },
		func(g *api.Gate) { g.Next = 8 },
		func(g *api.Gate) { g.Notes = append(g.Notes, noteOf(9, 1, 1)); g.Next = 10 },
		func(g *api.Gate) { g.Notes = append(g.Notes, noteOf(9, 1, 1)) },
		func(g *api.Gate) { g.Notes[0].Id = 0 },
		func(g *api.Gate) { g.Notes[0].Id = -1 },
		func(g *api.Gate) { g.Notes[1].Id = 2 },
		func(g *api.Gate) { g.Notes[0], g.Notes[1] = g.Notes[1], g.Notes[0] },
		func(g *api.Gate) { g.Notes[2].Conn = api.Conn{} },
		func(g *api.Gate) { g.Notes[1].Conn.Lanes[1].Id = 0 },
		func(g *api.Gate) { g.Notes[1].Conn.Client = true },
		func(g *api.Gate) { g.Notes[0].Conn, _ = conn.Begin(true, 0) },
	}
	for i := range api.MaxPeers {
		out = append(out,
			func(g *api.Gate) { g.Tally[i] = api.Tally{Got: 10, Sent: 31} },
			func(g *api.Gate) { g.Tally[i] = api.Tally{Known: true, Got: -1} },
			func(g *api.Gate) { g.Tally[i].Sent = -1 })
	}
	for i := range outside(0) {
		out = append(out,
			func(g *api.Gate) { g.Now = outside(api.MaxTime)[i] },
			func(g *api.Gate) { g.Shed = outside(api.MaxTime)[i] },
			func(g *api.Gate) { g.Next = outside(256)[i] },
			func(g *api.Gate) { g.Notes[1].From = outside(255)[i] },
			func(g *api.Gate) { g.Notes[1].Peer = outside(api.MaxPeers - 1)[i] })
	}
	return out
}

// call of this layer.
type call struct {
	name string
	do   func(g api.Gate) (api.Gate, []api.Mail, api.Errno)
}

// callsWith are all calls that take an endpoint, but Check.
func callsWith(peer int, b []byte, n, id, lane int) []call {
	return []call{
		{"Hear", func(g api.Gate) (api.Gate, []api.Mail, api.Errno) { return Hear(g, peer, b) }},
		{"Tick", func(g api.Gate) (api.Gate, []api.Mail, api.Errno) { return Tick(g, n) }},
		{"Answer", func(g api.Gate) (api.Gate, []api.Mail, api.Errno) { return Answer(g, id, lane, b) }},
	}
}

// TestBegin: P19.4, an endpoint that begins.
func TestBegin(t *testing.T) {
	for _, secret := range []uint64{0, 7, math.MaxUint64} {
		for _, retry := range []bool{true, false} {
			want := api.Gate{Secret: secret, Next: 1, Retry: retry}
			if g := Begin(secret, retry); !same(g, want) || Check(g) != api.OK {
				t.Errorf("Begin(%d, %v) = %v", secret, retry, g)
			}
		}
	}
}

// TestCheck: P19.5, endpoints that may be, and such that may not; all calls refuse those, ahead of all else.
func TestCheck(t *testing.T) {
	for i, g := range goodGates() {
		if e := Check(g); e != api.OK {
			t.Errorf("good endpoint %d: Check = %d: %+v", i, e, g)
		}
	}
	for i, by := range breaks() {
		g := altered(busy(), by)
		if e := Check(g); e != api.ErrState {
			t.Errorf("bad endpoint %d: Check = %d, want ErrState", i, e)
		}
		for _, k := range callsWith(-1, text(401), 0, 77, 77) {
			if h, out, e := k.do(g); e != api.ErrState || !same(h, api.Gate{}) || len(out) != 0 {
				t.Errorf("bad endpoint %d: %s = %v, %v, %d, want ErrState", i, k.name, h, out, e)
			}
		}
	}
}

// TestTickRefuses: P19.7, how long may pass, and till when.
func TestTickRefuses(t *testing.T) {
	for _, now := range []int{0, 20, api.MaxTime - 60, api.MaxTime - 1, api.MaxTime} {
		for _, n := range []int{1, 2, 59, 60} {
			g := altered(Begin(3, true), func(g *api.Gate) { g.Now = now })
			want, e := altered(g, func(g *api.Gate) { g.Now += n }), api.OK
			if now+n > api.MaxTime {
				want, e = api.Gate{}, api.ErrRange
			}
			if h, out, f := Tick(g, n); !same(h, want) || len(out) != 0 || f != e {
				t.Errorf("Tick(%d) at %d = %v, %v, %d, want %v, %d", n, now, h, out, f, want, e)
			}
		}
		for _, n := range append(outside(api.Idle), 0) {
			g := altered(busy(), func(g *api.Gate) { g.Now = now })
			if h, out, e := Tick(g, n); !same(h, api.Gate{}) || len(out) != 0 || e != api.ErrRange {
				t.Errorf("Tick(%d) at %d = %v, %v, %d, want ErrRange", n, now, h, out, e)
			}
		}
	}
}

// shortTo is a packet to a note's other end, of these frames.
func shortTo(n api.Note, number, acked int, l ...api.Frame) api.Mail {
	b, e := Packet(Way(n.Key, false), api.Head{Kind: api.Short, To: n.From}, number, acked, l)
	if e != api.OK {
		panic("a test's packet is refused")
	}
	return api.Mail{Peer: n.Peer, Data: b}
}

// TestTick: P19.7, what is overdue is lost, and told again to those that are ready.
func TestTick(t *testing.T) {
	g := busy()
	want := altered(g, func(g *api.Gate) { g.Now++ })
	if h, out, e := Tick(g, 1); !same(h, want) || len(out) != 0 || e != api.OK {
		t.Errorf("Tick(1) = %v, %v, %d, want nothing", h, out, e)
	}
	h, out, e := Tick(g, 2)
	lost := api.Frame{Kind: api.Token, Data: text(6)}
	want = altered(g, func(g *api.Gate) {
		g.Now = 22
		for i := range g.Notes {
			c := &g.Notes[i].Conn
			c.Pace = api.Pace{Window: 200, Thresh: 200, Since: 22}
			c.Space.Sent, c.Queue = nil, []api.Frame{lost}
			if i < 2 {
				c.Pace.Flying, c.Queue = 32, nil
				c.Space.Sent = []api.Parcel{{Number: 2, Time: 22, Size: 32, Frames: []api.Frame{lost}}}
				c.Space.Next = 3
				g.Tally[i].Sent += 19
			}
		}
	})
	wantOut := []api.Mail{shortTo(g.Notes[0], 2, -1, lost), shortTo(g.Notes[1], 2, -1, lost)}
	if !same(h, want) || !same(out, wantOut) || e != api.OK {
		t.Errorf("Tick(2) = %+v, %v, %d, want %+v, %v", h, out, e, want, wantOut)
	}
}

// TestTickIdle: P19.7, those of whom nothing is heard for long go, ready or not.
func TestTickIdle(t *testing.T) {
	g := altered(busy(), func(g *api.Gate) {
		g.Notes[0].Conn.Last = 16
		for i := range g.Notes {
			g.Notes[i].Conn.Space.Sent, g.Notes[i].Conn.Pace.Flying = nil, 0
		}
	})
	want := altered(g, func(g *api.Gate) { g.Now = 75; g.Notes = g.Notes[:1] })
	if h, out, e := Tick(g, 55); !same(h, want) || len(out) != 0 || e != api.OK {
		t.Errorf("Tick(55) = %+v, %v, %d, want %+v", h, out, e, want)
	}
	want.Now = 74
	want.Notes = g.Notes
	if h, out, e := Tick(g, 54); !same(h, want) || len(out) != 0 || e != api.OK {
		t.Errorf("Tick(54) = %+v, %v, %d, want %+v", h, out, e, want)
	}
	want.Now = 76
	want.Notes = nil
	if h, out, e := Tick(g, 56); !same(h, want) || len(out) != 0 || e != api.OK {
		t.Errorf("Tick(56) = %+v, %v, %d, want %+v", h, out, e, want)
	}
}

// TestAnswer: P19.8, bytes and the end, on a lane of a note; then they are sent.
func TestAnswer(t *testing.T) {
	g := busy()
	h, out, e := Answer(g, 5, 1, []byte("xyz"))
	piece := api.Frame{Kind: api.Stream, Id: 1, Off: 2, Fin: true, Data: []byte("xyz")}
	want := altered(g, func(g *api.Gate) {
		c := &g.Notes[1].Conn
		c.Lanes[1].Out = api.Sender{Data: append(text(2), "xyz"...), Fin: true, Next: 5, Max: 300, Acked: []api.Range{{Lo: 0, Hi: 0}}, Ended: true}
		c.Credit.Used = 3
		c.Pace.Flying += 31
		c.Space.Sent = append(c.Space.Sent, api.Parcel{Number: 2, Time: 20, Size: 31, Frames: []api.Frame{piece}})
		c.Space.Next = 3
		g.Tally[1].Sent += 18
	})
	if wantOut := []api.Mail{shortTo(g.Notes[1], 2, -1, piece)}; !same(h, want) || !same(out, wantOut) || e != api.OK {
		t.Errorf("Answer = %+v, %v, %d, want %+v, %v", h, out, e, want, wantOut)
	}
	// One that isn't ready is written to, but nothing is sent.
	h, out, e = Answer(g, 8, 0, nil)
	want = altered(g, func(g *api.Gate) { g.Notes[2].Conn.Lanes[0].Out.Fin = true })
	if !same(h, want) || len(out) != 0 || e != api.OK {
		t.Errorf("Answer = %+v, %v, %d, want %+v", h, out, e, want)
	}
}

// TestAnswerRefuses: P19.8, then nothing changes, and nothing is sent, however much there is.
func TestAnswerRefuses(t *testing.T) {
	g := altered(busy(), func(g *api.Gate) {
		g.Notes[0].Conn.Owes = true
		g.Notes[1].Conn.Queue = []api.Frame{{Kind: api.Response, Code: 3}}
		g.Notes[1].Conn.Lanes[1].Out.Fin = true
	})
	closed := altered(g, func(g *api.Gate) { g.Notes[0].Conn.Closed = true })
	for i, c := range []struct {
		g        api.Gate
		id, lane int
		n        int
		e        api.Errno
	}{
		{g, 1, 0, 0, api.ErrNone},
		{g, 0, 0, 0, api.ErrNone},
		{g, -1, 0, 0, api.ErrNone},
		{g, 3, 0, 700, api.ErrNone},
		{g, 9, 0, 0, api.ErrNone},
		{g, math.MaxInt, 0, 0, api.ErrNone},
		{g, 2, 2, 0, api.ErrNone},
		{g, 2, -1, 700, api.ErrNone},
		{g, 5, 1, 0, api.ErrDone},
		{g, 5, 1, 700, api.ErrDone},
		{g, 2, 0, 601, api.ErrFull},
		{g, 2, 1, 599, api.ErrFull},
		{closed, 2, 0, 0, api.ErrDone},
		{closed, 2, 7, 0, api.ErrDone},
	} {
		if h, out, e := Answer(c.g, c.id, c.lane, text(c.n)); !same(h, c.g) || len(out) != 0 || e != c.e {
			t.Errorf("case %d: Answer = %+v, %v, %d, want nothing, %d", i, h, out, e, c.e)
		}
	}
	// Else all notes are flushed, whoever is answered.
	if h, out, e := Answer(g, 8, 1, nil); len(out) != 2 || out[0].Peer != 0 || out[1].Peer != 1 || e != api.OK || h.Notes[0].Conn.Owes || len(h.Notes[1].Conn.Queue) != 0 {
		t.Errorf("Answer = %+v, %v, %d", h, out, e)
	}
	if h, out, e := Answer(closed, 8, 1, nil); len(out) != 1 || e != api.OK || len(h.Notes) != 2 || h.Notes[0].Id != 5 {
		t.Errorf("Answer = %+v, %v, %d", h, out, e)
	}
}
