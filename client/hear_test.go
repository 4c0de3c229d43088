package client

import (
	"bytes"
	"math"
	"testing"

	"spillway/api"
	"spillway/conn"
	"spillway/gate"
)

// hearing is what comes of hearing bytes at 20: how the client is changed, what is sent, and what is refused.
type hearing struct {
	c   api.Client
	b   []byte
	by  func(c *api.Client)
	out [][]byte
	e   api.Errno
}

func unchanged(*api.Client) {}

func checkHear(t *testing.T, l []hearing) {
	t.Helper()
	for i, k := range l {
		want := altered(k.c, k.by)
		c, out, e := Hear(k.c, 20, k.b)
		if !same(c, want) || !same(out, k.out) || e != k.e {
			t.Errorf("case %d: Hear(%v) =\n%+v, %v, %d, want\n%+v, %v, %d", i, k.b, c, out, e, want, k.out, k.e)
		}
		if Check(c) != api.OK {
			t.Errorf("case %d: it may not be: %+v", i, c)
		}
	}
}

// refuses: what is none of a client's leaves it as it is, and nothing is sent, though there is something.
func refuses(t *testing.T, c api.Client, b []byte, e api.Errno) {
	t.Helper()
	checkHear(t, []hearing{{queueing(c), b, unchanged, nil, e}})
}

// TestHearSize: P20.4, more than a packet.
func TestHearSize(t *testing.T) {
	for _, c := range []api.Client{newcomer(), known()} {
		for _, n := range []int{401, 402, 5000} {
			refuses(t, c, text(n), api.ErrSize)
			refuses(t, c, append(retried(c, text(3)), make([]byte, n)...), api.ErrSize)
		}
		refuses(t, c, text(400), api.ErrKind)
	}
}

// TestHearHeads: P20.4, what comes of bytes by their heads.
func TestHearHeads(t *testing.T) {
	for _, c := range []api.Client{newcomer(), known()} {
		id := byte(c.Id)
		for _, k := range []struct {
			b []byte
			e api.Errno
		}{
			{nil, api.ErrShort},
			{[]byte{}, api.ErrShort},
			{[]byte{0}, api.ErrKind},
			{[]byte{63, id, 0}, api.ErrKind},
			{[]byte{241, id, 1, 0}, api.ErrKind},
			{[]byte{64}, api.ErrShort},
			{[]byte{64, id}, api.ErrShort},
			{[]byte{65, id, 0}, api.ErrShort},
			{[]byte{192, id, 1}, api.ErrShort},
			{[]byte{192, id, 1, 64, 121}, api.ErrSize},
			{[]byte{192, id, 1, 3, 1, 1, 0}, api.ErrShort},
			{[]byte{240, id, 1}, api.ErrShort},
			// To others, whatever else is wrong with them.
			{[]byte{64, id + 1}, api.ErrShort},
			{[]byte{64, id + 1, 0}, api.ErrNone},
			{[]byte{64, 0, 0}, api.ErrNone},
			{[]byte{64, byte(c.To), 0}, api.ErrNone},
			{[]byte{192, id - 1, 1, 0, 0}, api.ErrNone},
			{[]byte{192, 0, id, 0, 0}, api.ErrNone},
			{[]byte{240, 0, id, 0}, api.ErrNone},
			{[]byte{240, id + 1, id, 1, 5}, api.ErrNone},
		} {
			refuses(t, c, k.b, k.e)
		}
	}
}

// TestRetry: P20.4, a token is taken once, ahead of all else, and shown.
func TestRetry(t *testing.T) {
	c := newcomer()
	for _, shown := range [][]byte{{5}, text(16), text(63)} {
		for _, c := range []api.Client{c, queueing(c), altered(c, func(c *api.Client) { c.Conn.Closed = true })} {
			with := altered(c, func(c *api.Client) { c.Token = shown })
			checkHear(t, []hearing{{c, retried(c, shown), func(c *api.Client) { c.Token = shown }, [][]byte{greeting(with)}, api.OK}})
		}
	}
	longest := append([]byte{240, 7, 200, 64, api.MaxData}, text(api.MaxData)...)
	with := altered(c, func(c *api.Client) { c.Token = text(api.MaxData) })
	checkHear(t, []hearing{{c, longest, func(c *api.Client) { *c = with }, [][]byte{greeting(with)}, api.OK}})
	// No token, or one too many.
	refuses(t, c, retried(c, nil), api.ErrState)
	refuses(t, c, append(retried(c, nil), 0), api.ErrState)
	refuses(t, c, append(retried(c, text(16)), 0), api.ErrState)
	refuses(t, with, retried(c, text(16)), api.ErrState)
	refuses(t, with, retried(c, nil), api.ErrState)
	refuses(t, altered(c, func(c *api.Client) { c.Token = []byte{0} }), retried(c, text(16)), api.ErrState)
	// Who knows the endpoint takes none.
	for _, c := range []api.Client{known(), altered(known(), func(c *api.Client) { c.Token = nil }), altered(c, func(c *api.Client) { c.To = 255 })} {
		refuses(t, c, retried(c, text(16)), api.ErrState)
	}
}

// TestInitial: P20.4, the endpoint's number and word, once.
func TestInitial(t *testing.T) {
	c := newcomer()
	knows := func(from int, word uint64) func(c *api.Client) {
		return func(c *api.Client) { c.To, c.Key = from, gate.Session(99, word) }
	}
	for _, from := range []int{1, 2, 255} {
		for _, word := range []uint64{0, 5, 0x0102030405060708, math.MaxUint64} {
			checkHear(t, []hearing{{c, welcome(c, from, helloOf(word)), knows(from, word), nil, api.OK}})
		}
	}
	// The client's own word counts: of 1 and 2 the key is as P19.1 has it.
	one := altered(c, func(c *api.Client) { c.Word = 1 })
	checkHear(t, []hearing{{one, welcome(c, 3, helloOf(2)), func(c *api.Client) { c.To, c.Key = 3, 0xe06dd043328bd285 }, nil, api.OK}})
	// Its token stays; one that the packet has, its number, and that the client is closed, count for nothing.
	shown := altered(c, func(c *api.Client) { c.Token = text(16) })
	closed := altered(c, func(c *api.Client) { c.Conn.Closed = true })
	for _, c := range []api.Client{shown, closed} {
		for _, number := range []int{0, 3, 1 << 20} {
			b, e := gate.Packet(gate.First(7), api.Head{Kind: api.Initial, To: 7, From: 4, Token: text(9)}, number, -1, []api.Frame{helloOf(6)})
			mustBe(t, e)
			checkHear(t, []hearing{{c, b, knows(4, 6), nil, api.OK}})
		}
	}
}

// TestInitialFlushes: P20.4, what waited till the endpoint is known is sent then.
func TestInitialFlushes(t *testing.T) {
	c := queueing(newcomer())
	then := altered(c, func(c *api.Client) { c.To, c.Key = 4, gate.Session(99, 6) })
	want, out := flushed(t, then, 20, 1)
	b := welcome(c, 4, helloOf(6))
	checkHear(t, []hearing{{c, b, func(c *api.Client) { *c = want }, out, api.OK}})
	if !bytes.Equal(out[0], shortUp(then, 0, api.Frame{Kind: api.Response, Code: 3})) {
		t.Errorf("it sends %v", out)
	}
	// A second time it is refused.
	refuses(t, want, b, api.ErrTwice)
}

// TestInitialRefuses: P20.4, what is refused of a first packet, and what first.
func TestInitialRefuses(t *testing.T) {
	c := newcomer()
	head := []byte{192, 7, 3, 0, 0}
	hello := bytesOf(helloOf(6))
	first := gate.First(7)
	none := welcome(c, 3)
	for _, c := range []api.Client{c, known(), altered(c, func(c *api.Client) { c.To = 1 })} {
		c.Id = 7
		for _, k := range []struct {
			b []byte
			e api.Errno
		}{
			{head, api.ErrShort},
			{packed(first, 0, head, hello)[:12], api.ErrShort},
			{packed(first, 0, head, hello)[:20], api.ErrSeal},
			{packed(gate.First(3), 0, head, hello), api.ErrSeal},
			{packed(gate.First(0), 0, head, hello), api.ErrSeal},
			{packed(first, 1, head, hello), api.ErrSeal},
			{packed(first, 256, head, hello), api.ErrSeal},
			{packed(first, 0, []byte{192, 7, 3, 0, 1}, hello), api.ErrSeal},
			{packed(first, 0, []byte{192, 7, 0, 0, 1}, hello), api.ErrSeal},
			{packed(first, 0, head, append(bytes.Clone(hello), 3)), api.ErrKind},
			{packed(first, 0, head, append(bytes.Clone(hello), make([]byte, 12)...)), api.ErrFull},
			{packed(first, 0, head, hello[:10]), api.ErrShort},
		} {
			refuses(t, c, k.b, k.e)
		}
		if c.To != 0 {
			refuses(t, c, packed(first, 0, head, hello), api.ErrTwice)
			refuses(t, c, none, api.ErrTwice)
		}
		refuses(t, c, packed(first, 0, []byte{192, 7, 0, 0, 0}, hello), api.ErrTwice)
		refuses(t, c, packed(first, 0, []byte{192, 7, 0, 0, 0}, nil), api.ErrTwice)
	}
	refuses(t, c, none, api.ErrForm)
}

// TestInitialWord: P20.4, the first whole word of a packet counts.
func TestInitialWord(t *testing.T) {
	c := newcomer()
	long := api.Frame{Kind: api.Hello, Data: text(9)}
	part := api.Frame{Kind: api.Hello, Data: text(7)}
	later := api.Frame{Kind: api.Hello, Off: 1, Data: text(8)}
	other := api.Frame{Kind: api.Token, Data: text(8)}
	for _, l := range [][]api.Frame{
		{helloOf(5)},
		{helloOf(5), helloOf(6)},
		{{}, helloOf(5), {Kind: api.Close}},
		{long, part, later, other, {Kind: api.Hello}, helloOf(5), long, helloOf(6)},
	} {
		checkHear(t, []hearing{{c, welcome(c, 3, l...), func(c *api.Client) { c.To, c.Key = 3, gate.Session(99, 5) }, nil, api.OK}})
	}
	for _, l := range [][]api.Frame{{}, {{}}, {long}, {part}, {later}, {other}, {long, part, later, other, {Kind: api.Hello}}} {
		refuses(t, c, welcome(c, 3, l...), api.ErrForm)
	}
}

// TestShort: P20.4, a packet of the connection is heard by the Conn, now, and then all there is is sent.
func TestShort(t *testing.T) {
	c := queueing(known())
	ping := api.Frame{Kind: api.Ping}
	for i, l := range [][]api.Frame{
		{ping},
		{{Kind: api.Stream, Id: 0, Off: 5, Fin: true, Data: text(2)}},
		{{Kind: api.Ack, Ranges: []api.Range{{Lo: 3, Hi: 3}}}},
		{{Kind: api.Challenge, Code: 9}, ping, {Kind: api.MaxIds, Off: 9}},
		nil,
	} {
		heard, some, e := conn.Hear(c.Conn, 20, 9, l)
		if !some || e != api.OK {
			t.Fatalf("case %d: it is not heard", i)
		}
		want, out := flushed(t, altered(c, func(c *api.Client) { c.Conn = heard }), 20, 1)
		checkHear(t, []hearing{{c, shortDown(c, 9, 8, l...), func(c *api.Client) { *c = want }, out, api.OK}})
	}
	// What is told of is what was heard: by hand.
	quiet := known()
	told := shortUp(quiet, 5, api.Frame{Kind: api.Ack, Ranges: []api.Range{{Lo: 9, Hi: 9}, {Lo: 5, Hi: 6}, {Lo: 0, Hi: 3}}})
	heard := func(c *api.Client) {
		c.Conn.Last = 20
		c.Conn.Space.Heard = append(c.Conn.Space.Heard, api.Range{Lo: 9, Hi: 9})
	}
	checkHear(t, []hearing{
		{quiet, shortDown(quiet, 9, 8, ping), func(c *api.Client) {
			heard(c)
			c.Conn.Space.Next = 6
		}, [][]byte{told}, api.OK},
		{quiet, shortDown(quiet, 9, 8), heard, nil, api.OK},
		{quiet, shortDown(quiet, 9, 8, api.Frame{}), heard, nil, api.OK},
	})
	// One that is not new changes nothing, but all is flushed.
	want, out := flushed(t, c, 20, 1)
	checkHear(t, []hearing{
		{quiet, shortDown(quiet, 6, 5, ping), unchanged, nil, api.OK},
		{c, shortDown(c, 6, 5, ping), func(c *api.Client) { *c = want }, out, api.OK},
	})
}

// TestShortRefuses: P20.4, what is none of the connection's.
func TestShortRefuses(t *testing.T) {
	c := known()
	way := gate.Way(c.Key, false)
	ping := api.Frame{Kind: api.Ping}
	other := altered(c, func(c *api.Client) { c.Key++ })
	head := []byte{64, 8, 9}
	for _, k := range []struct {
		b []byte
		e api.Errno
	}{
		{head, api.ErrShort},
		{shortDown(c, 9, 8, ping)[:10], api.ErrShort},
		{shortDown(c, 9, 8, ping)[:11], api.ErrSeal},
		{shortDown(other, 9, 8, ping), api.ErrSeal},
		{packed(gate.Way(c.Key, true), 9, head, []byte{1}), api.ErrSeal},
		{packed(c.Key, 9, head, []byte{1}), api.ErrSeal},
		{packed(way, 9, []byte{64, 4, 9}, []byte{1}), api.ErrNone},
		{packed(way, 9, []byte{65, 8, 0, 9}, []byte{1})[1:], api.ErrKind},
		{packed(way, 10, head, []byte{1}), api.ErrSeal},
		{packed(way, 9, head, []byte{3}), api.ErrKind},
		{packed(way, 9, head, make([]byte, 13)), api.ErrFull},
		{packed(way, 9, head, []byte{1, 7, 9}), api.ErrShort},
	} {
		refuses(t, c, k.b, k.e)
	}
	// Who doesn't know the endpoint hears none, whatever it is.
	unknowing := altered(c, func(c *api.Client) { c.To = 0 })
	for _, b := range [][]byte{head, shortDown(c, 9, 8, ping), shortDown(other, 9, 8, ping)} {
		refuses(t, unknowing, b, api.ErrState)
		refuses(t, newcomer(), append([]byte{64, 7, 9}, b[3:]...), api.ErrState)
	}
	// A closed one hears none, and does not say so once more.
	closed := altered(c, func(c *api.Client) { c.Conn.Closed = true })
	refuses(t, closed, shortDown(c, 9, 8, ping), api.ErrDone)
	refuses(t, closed, shortDown(c, 6, 5, ping), api.ErrDone)
	// A number that the Conn refuses.
	end := altered(c, func(c *api.Client) { c.Conn.Space.Heard = []api.Range{{Lo: api.MaxVar, Hi: api.MaxVar}} })
	refuses(t, end, packed(way, api.MaxVar+1, []byte{64, 8, 0}, []byte{1}), api.ErrRange)
}

// TestShortTop: P20.4, a number is made whole by the highest one that was heard of.
func TestShortTop(t *testing.T) {
	set := func(l ...api.Range) api.Client {
		return altered(known(), func(c *api.Client) { c.Conn.Space.Heard = l })
	}
	one := set(api.Range{Lo: 300, Hi: 300})
	three := set(api.Range{Lo: 2, Hi: 4}, api.Range{Lo: 6, Hi: 9}, api.Range{Lo: 500, Hi: 600})
	for i, k := range []struct {
		c      api.Client
		number int
		e      api.Errno
	}{
		{set(), 0, api.OK},
		{set(), 127, api.OK},
		{set(), 255, api.OK},
		{set(), 256, api.ErrSeal},
		{one, 173, api.ErrSeal},
		{one, 174, api.OK},
		{one, 310, api.OK},
		{one, 429, api.OK},
		{one, 430, api.ErrSeal},
		{three, 728, api.OK},
		{three, 729, api.OK},
		{three, 730, api.ErrSeal},
	} {
		c, _, e := Hear(k.c, 20, shortDown(k.c, k.number, k.number-1, api.Frame{Kind: api.Ping}))
		if e != k.e || (c.Conn.Last == 20) != (e == api.OK) {
			t.Errorf("case %d: Hear = %+v, %d, want %d", i, c, e, k.e)
		}
	}
}

// TestShortCloses: P20.4, what closes the Conn is no refusal; it is told, if it was the client who closed it.
func TestShortCloses(t *testing.T) {
	c := known()
	closed := func(code int) func(c *api.Client) {
		return func(c *api.Client) {
			k := &c.Conn
			k.Closed, k.Code, k.Last = true, code, 20
			k.Lanes, k.Queue = nil, nil
			k.Space.Heard = append(k.Space.Heard, api.Range{Lo: 9, Hi: 9})
		}
	}
	told := shortUp(c, 5, api.Frame{Kind: api.Close, Code: int(api.ErrNone)})
	checkHear(t, []hearing{
		{c, shortDown(c, 9, 8, api.Frame{Kind: api.Stream, Id: 2}), func(c *api.Client) {
			closed(int(api.ErrNone))(c)
			c.Conn.Space.Next = 6
		}, [][]byte{told}, api.OK},
		{c, shortDown(c, 9, 8, api.Frame{Kind: api.Close, Code: 77}), closed(77), nil, api.OK},
	})
}

// wordy is a client that has much to say; few of it may be on its way, or not.
func wordy(window int) api.Client {
	return altered(known(), func(c *api.Client) {
		c.Conn.Space.Sent = nil
		c.Conn.Pace = api.Pace{Window: window, Since: -1}
		c.Conn.Lanes = []api.Lane{{Id: 1, In: api.Gather{Final: -1, Window: 300}, Out: api.Sender{Data: text(600), Max: 600}}}
	})
}

// TestFlush: at most three packets are sent at once, as far as the pace lets them be sent, and the Conn knows of these.
func TestFlush(t *testing.T) {
	for _, k := range []struct{ window, packets int }{{4000, 3}, {400, 2}, {200, 1}} {
		c := wordy(k.window)
		want, out := flushed(t, c, 20, k.packets)
		d, sent, e := Tick(c, 20)
		if !same(d, want) || !same(sent, out) || e != api.OK {
			t.Errorf("Tick = %+v, %d packets, %d, want %+v, %d", d, len(sent), e, want, len(out))
		}
		checkHear(t, []hearing{{c, shortDown(c, 6, 5), func(c *api.Client) { *c = want }, out, api.OK}})
		// What is left goes when there is room.
		if d, sent, e := Tick(d, 20); k.window == 4000 && (len(sent) != 2 || d.Conn.Lanes[0].Out.Next != 600) || k.window < 4000 && len(sent) != 0 || e != api.OK {
			t.Errorf("Tick once more = %+v, %d packets, %d", d, len(sent), e)
		}
		// Nothing to one who is not known.
		c.To = 0
		if d, sent, e := Tick(c, 20); !same(d, c) || len(sent) != 0 || e != api.OK {
			t.Errorf("Tick = %+v, %v, %d, want nothing", d, sent, e)
		}
	}
}

// TestFlushTop: numbers are cut for the highest one that was heard of; one that can't be cut is not sent.
func TestFlushTop(t *testing.T) {
	for i, k := range []struct{ next, top, head int }{
		{7, -1, 3},
		{127, -1, 3},
		{255, -1, 4},
		{1000, 872, 3},
		{1000, 871, 4},
		{1<<31 - 1, -1, 6},
		{1 << 31, -1, 0},
		{1 << 31, 0, 6},
	} {
		c := altered(wordy(200), func(c *api.Client) {
			c.Conn.Space.Next, c.Conn.Space.Top, c.Conn.Space.Skip = k.next, k.top, nil
		})
		d, out, e := Tick(c, 20)
		if k.head == 0 {
			if len(out) != 0 || e != api.OK || !same(d, c) {
				t.Errorf("case %d: Tick = %+v, %v, %d, want nothing", i, d, out, e)
			}
			continue
		}
		if e != api.OK || len(out) != 1 || out[0][0] != byte(64+k.head-3) || out[0][1] != 4 || len(out[0]) != k.head+8+125 {
			t.Errorf("case %d: Tick = %v, %d, want a head of %d", i, out, e, k.head)
		}
	}
}

// TestFlushClosed: one that is closed says so once, if it can.
func TestFlushClosed(t *testing.T) {
	closed := func(by func(k *api.Conn)) api.Client {
		return altered(known(), func(c *api.Client) {
			c.Conn.Closed, c.Conn.Code = true, 9
			c.Conn.Queue = []api.Frame{{Kind: api.Close, Code: 9}}
			by(&c.Conn)
		})
	}
	long := make([]api.Frame, 4)
	for i := range long {
		long[i] = api.Frame{Kind: api.Token, Data: text(120)}
	}
	for i, k := range []struct {
		c    api.Client
		sent bool
	}{
		{closed(func(*api.Conn) {}), true},
		{closed(func(k *api.Conn) { k.Queue = nil }), false},
		{closed(func(k *api.Conn) { k.Queue = long[:3] }), true},
		// More than a packet can have, or numbers that there are none of.
		{closed(func(k *api.Conn) { k.Queue = long }), false},
		{closed(func(k *api.Conn) { k.Space.Next = api.MaxVar }), false},
		{closed(func(k *api.Conn) { k.Space.Next = 1 << 40 }), false},
	} {
		want, wantOut := k.c, [][]byte(nil)
		if k.sent {
			want = altered(k.c, func(c *api.Client) { c.Conn.Queue, c.Conn.Space.Next = nil, 6 })
			wantOut = [][]byte{shortUp(k.c, 5, k.c.Conn.Queue...)}
		}
		if d, out, e := Tick(k.c, 20); !same(d, want) || !same(out, wantOut) || e != api.OK {
			t.Errorf("case %d: Tick = %+v, %v, %d, want %+v, %v", i, d, out, e, want, wantOut)
		}
	}
}
