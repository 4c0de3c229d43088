package gate

import (
	"bytes"
	"math"
	"testing"

	"spillway/api"
	"spillway/conn"
	"spillway/lock"
	"spillway/token"
)

// wordBytes are a word in eight bytes, the highest one first.
func wordBytes(w uint64) []byte {
	b := make([]byte, 8)
	for i := range b {
		b[7-i] = byte(w >> (8 * i))
	}
	return b
}

// helloOf a word.
func helloOf(w uint64) api.Frame { return api.Frame{Kind: api.Hello, Data: wordBytes(w)} }

// initial packet of one who begins, of these frames.
func initial(from int, shown []byte, l ...api.Frame) []byte {
	b, e := Packet(First(from), api.Head{Kind: api.Initial, From: from, Token: shown}, 0, -1, l)
	if e != api.OK {
		panic("a test's packet is refused")
	}
	return b
}

// short packet to a note.
func short(n api.Note, number, acked int, l ...api.Frame) []byte {
	b, e := Packet(Way(n.Key, true), api.Head{Kind: api.Short, To: n.Id}, number, acked, l)
	if e != api.OK {
		panic("a test's packet is refused")
	}
	return b
}

// welcome is what one is sent who is noted.
func welcome(secret uint64, peer, from, id int) api.Mail {
	text := append([]byte{6, 0, 8}, wordBytes(lock.Key(secret, id))...)
	return api.Mail{Peer: peer, Data: packed(First(from), 0, []byte{192, byte(from), byte(id), 0, 0}, text)}
}

// retried is what one is sent who must show a token.
func retried(secret uint64, peer, from, now int) api.Mail {
	shown, _ := token.Make(secret, peer, now)
	return api.Mail{Peer: peer, Data: append([]byte{240, byte(from), 0, 16}, shown...)}
}

// hearing is what comes of hearing bytes: how the endpoint is changed, what is sent, and what is refused.
type hearing struct {
	g    api.Gate
	peer int
	b    []byte
	by   func(g *api.Gate)
	out  []api.Mail
	e    api.Errno
}

func checkHear(t *testing.T, l []hearing) {
	t.Helper()
	for i, c := range l {
		want := altered(c.g, func(g *api.Gate) {
			g.Tally[c.peer].Got += len(c.b)
			for _, m := range c.out {
				g.Tally[m.Peer].Sent += len(m.Data)
			}
			c.by(g)
		})
		g, out, e := Hear(c.g, c.peer, c.b)
		if !same(g, want) || !same(out, c.out) || e != c.e {
			t.Errorf("case %d: Hear =\n%+v, %v, %d, want\n%+v, %v, %d", i, g, out, e, want, c.out, c.e)
		}
		if Check(g) != api.OK {
			t.Errorf("case %d: it may not be: %+v", i, g)
		}
	}
}

func unchanged(*api.Gate) {}

func mails(l ...api.Mail) []api.Mail { return l }

// owing is a busy endpoint that has something to tell.
func owing() api.Gate {
	return altered(busy(), func(g *api.Gate) { g.Notes[0].Conn.Owes = true })
}

// told is what it tells then.
func told(g api.Gate) api.Mail {
	return shortTo(g.Notes[0], 2, -1, api.Frame{Kind: api.Ack, Ranges: []api.Range{{Lo: 0, Hi: 4}}})
}

// tells: it was told.
func tells(g *api.Gate) {
	g.Notes[0].Conn.Owes = false
	g.Notes[0].Conn.Space.Next = 3
}

// TestHearRefuses: P19.6, addresses and sizes: then there is no endpoint.
func TestHearRefuses(t *testing.T) {
	for _, g := range []api.Gate{Begin(1, false), owing()} {
		for _, peer := range outside(api.MaxPeers - 1) {
			for _, n := range []int{0, 400, 401} {
				if h, out, e := Hear(g, peer, text(n)); !same(h, api.Gate{}) || len(out) != 0 || e != api.ErrRange {
					t.Errorf("Hear from %d = %v, %v, %d, want ErrRange", peer, h, out, e)
				}
			}
		}
		for peer := range api.MaxPeers {
			for _, n := range []int{401, 402, 5000} {
				if h, out, e := Hear(g, peer, text(n)); !same(h, api.Gate{}) || len(out) != 0 || e != api.ErrSize {
					t.Errorf("Hear of %d bytes = %v, %v, %d, want ErrSize", n, h, out, e)
				}
			}
		}
	}
}

// TestHearCounts: P19.6, all bytes are counted, whatever comes of them; what can't be counted is not heard, and nothing is sent.
func TestHearCounts(t *testing.T) {
	g := owing()
	bad := text(400) // there is no such head
	checkHear(t, []hearing{
		{Begin(1, false), 3, bad, unchanged, nil, api.ErrKind},
		{Begin(1, false), 3, nil, unchanged, nil, api.ErrShort},
		{g, 0, bad, tells, mails(told(g)), api.ErrKind},
	})
	for i, c := range []struct {
		got, n int
		e      api.Errno
	}{
		{api.MaxTime, 0, api.ErrShort},
		{api.MaxTime, 1, api.ErrFull},
		{api.MaxTime - 399, 399, api.ErrKind},
		{api.MaxTime - 399, 400, api.ErrFull},
	} {
		g := altered(g, func(g *api.Gate) {
			g.Tally[2].Got = c.got
			g.Notes[1].Conn.Closed = true
		})
		want, wantOut := deep(g), mails()
		if c.e != api.ErrFull {
			want.Tally[2].Got = api.MaxTime
			want.Tally[0].Sent += len(told(g).Data)
			tells(&want)
			want.Notes = append(want.Notes[:1], want.Notes[2])
			wantOut = mails(told(g))
		}
		if h, out, e := Hear(g, 2, text(c.n)); !same(h, want) || !same(out, wantOut) || e != c.e {
			t.Errorf("case %d: Hear = %v, %v, %d, want %v, %v, %d", i, h, out, e, want, wantOut, c.e)
		}
	}
}

// TestHearHeads: P19.6, what comes of bytes by their heads; all is flushed then.
func TestHearHeads(t *testing.T) {
	g := owing()
	for _, c := range []struct {
		b []byte
		e api.Errno
	}{
		{nil, api.ErrShort},
		{[]byte{}, api.ErrShort},
		{[]byte{0}, api.ErrKind},
		{[]byte{63, 1, 0}, api.ErrKind},
		{[]byte{64}, api.ErrShort},
		{[]byte{64, 2}, api.ErrShort},
		{[]byte{65, 2, 0}, api.ErrShort},
		{[]byte{192, 0, 1}, api.ErrShort},
		{[]byte{192, 0, 1, 64}, api.ErrShort},
		{[]byte{192, 0, 1, 64, 121}, api.ErrSize},
		{[]byte{192, 0, 1, 3, 1, 1, 0}, api.ErrShort},
		// What comes of a Retry, whole or not.
		{[]byte{240, 0, 1}, api.ErrShort},
		{[]byte{240, 0, 1, 0}, api.ErrKind},
		{retried(7, 0, 5, 20).Data, api.ErrKind},
		{[]byte{241, 0, 1, 0}, api.ErrKind},
		// None is there; nothing behind the head.
		{[]byte{64, 1, 0}, api.ErrNone},
		{[]byte{64, 2, 0}, api.ErrShort},
		{[]byte{192, 0, 1, 0, 0}, api.ErrShort},
		{append([]byte{64, 2, 0}, text(8)...), api.ErrSeal},
		{append([]byte{192, 2, 0, 0, 0}, text(9)...), api.ErrSeal},
	} {
		checkHear(t, []hearing{{g, 0, c.b, tells, mails(told(g)), c.e}})
		if _, out, e := Hear(Begin(1, false), 0, c.b); len(out) != 0 || e != c.e && c.e != api.ErrSeal && !(c.b[0] == 64 && e == api.ErrNone) {
			t.Errorf("Hear(%v) = %v, %d, want %d", c.b, out, e, c.e)
		}
	}
}

// TestInitial: P19.9, who begins is noted, and told the endpoint's word, as often as he comes.
func TestInitial(t *testing.T) {
	g := altered(Begin(7, false), func(g *api.Gate) { g.Now = 33 })
	w := uint64(0x0102030405060708)
	one := func(g *api.Gate) {
		g.Next = 2
		g.Notes = append(g.Notes, api.Note{Id: 1, From: 9, Peer: 2, Key: Session(w, lock.Key(7, 1)), Conn: begunAt(33)})
	}
	checkHear(t, []hearing{{g, 2, initial(9, nil, helloOf(w)), one, mails(welcome(7, 2, 9, 1)), api.OK}})
	g, _, _ = Hear(g, 2, initial(9, nil, helloOf(w)))
	g = altered(g, func(g *api.Gate) { g.Now = 40 })
	two := func(peer, from int, w uint64) func(g *api.Gate) {
		return func(g *api.Gate) {
			g.Next = 3
			g.Notes = append(g.Notes, api.Note{Id: 2, From: from, Peer: peer, Key: Session(w, lock.Key(7, 2)), Conn: begunAt(40)})
		}
	}
	checkHear(t, []hearing{
		// Once more, with whatever word: nothing changes.
		{g, 2, initial(9, nil, helloOf(w)), unchanged, mails(welcome(7, 2, 9, 1)), api.OK},
		{g, 2, initial(9, text(3), helloOf(w+1)), unchanged, mails(welcome(7, 2, 9, 1)), api.OK},
		// Another one there, or one with this number elsewhere.
		{g, 2, initial(8, nil, helloOf(0)), two(2, 8, 0), mails(welcome(7, 2, 8, 2)), api.OK},
		{g, 1, initial(9, nil, helloOf(math.MaxUint64)), two(1, 9, math.MaxUint64), mails(welcome(7, 1, 9, 2)), api.OK},
		{g, 3, initial(255, text(120), helloOf(5)), two(3, 255, 5), mails(welcome(7, 3, 255, 2)), api.OK},
		{g, 0, initial(0, nil, helloOf(5)), two(0, 0, 5), mails(welcome(7, 0, 0, 2)), api.OK},
	})
	// To whom it is, and with which number, counts for nothing.
	for _, h := range []api.Head{{To: 77, From: 9}, {To: 1, From: 9}} {
		for _, number := range []int{0, 3, 1 << 20} {
			b, e := Packet(First(9), h, number, -1, []api.Frame{helloOf(w)})
			mustBe(t, e)
			checkHear(t, []hearing{
				{g, 2, b, unchanged, mails(welcome(7, 2, 9, 1)), api.OK},
				{g, 1, b, two(1, 9, w), mails(welcome(7, 1, 9, 2)), api.OK},
			})
		}
	}
}

// TestInitialWord: P19.9, the first whole word of a packet counts.
func TestInitialWord(t *testing.T) {
	long := api.Frame{Kind: api.Hello, Data: text(9)}
	part := api.Frame{Kind: api.Hello, Data: text(7)}
	later := api.Frame{Kind: api.Hello, Off: 1, Data: text(8)}
	other := api.Frame{Kind: api.Token, Data: text(8)}
	for _, l := range [][]api.Frame{
		{helloOf(5)},
		{helloOf(5), helloOf(6)},
		{{}, helloOf(5), {Kind: api.Close}},
		{long, part, later, other, {Kind: api.Hello}, helloOf(5), long, helloOf(6)},
	} {
		g, out, e := Hear(Begin(7, false), 0, initial(1, nil, l...))
		if len(g.Notes) != 1 || g.Notes[0].Key != Session(5, lock.Key(7, 1)) || g.Notes[0].Ready || len(out) != 1 || e != api.OK || g.Tally[0].Known {
			t.Errorf("Hear(%v) = %v, %v, %d", l, g, out, e)
		}
	}
	g := owing()
	for _, l := range [][]api.Frame{{}, {{}}, {long}, {part}, {later}, {other}, {long, part, later, other, {Kind: api.Hello}}} {
		// Whether one is noted, or not.
		checkHear(t, []hearing{
			{g, 0, initial(5, nil, l...), tells, mails(told(g)), api.ErrForm},
			{g, 2, initial(5, nil, l...), tells, mails(told(g)), api.ErrForm},
		})
	}
}

// TestInitialSeal: P19.9, what Unpack refuses.
func TestInitialSeal(t *testing.T) {
	g := Begin(7, true)
	h := []byte{192, 0, 4, 0, 0}
	hello := append([]byte{6, 0, 8}, text(8)...)
	for _, c := range []struct {
		b []byte
		e api.Errno
	}{
		{packed(First(5), 0, h, hello), api.ErrSeal},
		{packed(First(4), 1, h, hello), api.ErrSeal},
		{packed(First(4), 0, []byte{192, 0, 4, 0, 1}, hello), api.ErrSeal},
		{packed(First(4), 256, h, hello), api.ErrSeal},
		{packed(First(4), 0, h, append(hello, 3)), api.ErrKind},
		{packed(First(4), 0, h, append(hello, make([]byte, 12)...)), api.ErrFull},
		{packed(First(4), 0, h, hello[:10]), api.ErrShort},
	} {
		checkHear(t, []hearing{{g, 1, c.b, unchanged, nil, c.e}})
	}
}

// TestRetry: P19.9, where tokens must be shown, one is sent to whoever shows none that is good.
func TestRetry(t *testing.T) {
	now := 100
	g := altered(Begin(7, true), func(g *api.Gate) { g.Now = now })
	good := func(made int) []byte {
		b, e := token.Make(7, 2, made)
		mustBe(t, e)
		return b
	}
	elsewhere, _ := token.Make(7, 1, now)
	foreign, _ := token.Make(8, 2, now)
	asked := mails(retried(7, 2, 9, now))
	for _, c := range []struct {
		shown []byte
		e     api.Errno
	}{
		{nil, api.ErrForm},
		{text(15), api.ErrForm},
		{text(17), api.ErrForm},
		{append(good(now), 0), api.ErrForm},
		{text(16), api.ErrSeal},
		{elsewhere, api.ErrSeal},
		{foreign, api.ErrSeal},
		{good(now + 1), api.ErrOld},
		{good(now - 51), api.ErrOld},
		{good(0), api.ErrOld},
	} {
		checkHear(t, []hearing{{g, 2, initial(9, c.shown, helloOf(5)), unchanged, asked, c.e}})
	}
	in := func(g *api.Gate) {
		g.Next = 2
		g.Notes = []api.Note{{Id: 1, From: 9, Peer: 2, Key: Session(5, lock.Key(7, 1)), Conn: begunAt(now)}}
		g.Tally[2].Known = true
	}
	for _, made := range []int{now, now - 1, now - 50} {
		checkHear(t, []hearing{{g, 2, initial(9, good(made), helloOf(5)), in, mails(welcome(7, 2, 9, 1)), api.OK}})
	}
	// Who is noted shows nothing.
	g, _, _ = Hear(g, 2, initial(9, good(now), helloOf(5)))
	checkHear(t, []hearing{
		{g, 2, initial(9, nil, helloOf(5)), unchanged, mails(welcome(7, 2, 9, 1)), api.OK},
		{g, 2, initial(8, nil, helloOf(5)), unchanged, mails(retried(7, 2, 8, now)), api.ErrForm},
		{g, 1, initial(9, good(now), helloOf(5)), unchanged, mails(retried(7, 1, 9, now)), api.ErrSeal},
	})
}

// TestLastPlace: P19.9, the last place is for one who shows a token; behind it there is none.
func TestLastPlace(t *testing.T) {
	g := altered(busy(), func(g *api.Gate) { g.Notes = g.Notes[:2] })
	shown, _ := token.Make(7, 3, 20)
	known := func(g *api.Gate) { g.Tally[3].Known = true }
	in := func(g *api.Gate) {
		g.Next = 10
		g.Notes = append(g.Notes, api.Note{Id: 9, From: 200, Peer: 3, Key: Session(4, lock.Key(7, 9)), Conn: begunAt(20)})
	}
	shed := func(g *api.Gate) { g.Shed++ }
	must := func(g api.Gate) api.Gate { return altered(g, func(g *api.Gate) { g.Retry = true }) }
	end := func(g api.Gate) api.Gate { return altered(g, func(g *api.Gate) { g.Next = 256 }) }
	some := func(n int) api.Gate { return altered(g, func(g *api.Gate) { g.Notes = g.Notes[:n] }) }
	both := func(l ...func(g *api.Gate)) func(g *api.Gate) {
		return func(g *api.Gate) {
			for _, by := range l {
				by(g)
			}
		}
	}
	none, good := initial(200, nil, helloOf(4)), initial(200, shown, helloOf(4))
	in9, again := mails(welcome(7, 3, 200, 9)), mails(retried(7, 3, 200, 20))
	most := altered(busy(), func(g *api.Gate) { g.Shed = api.MaxTime })
	checkHear(t, []hearing{
		{some(1), 3, none, in, in9, api.OK},
		{some(1), 3, good, in, in9, api.OK},
		{must(some(1)), 3, none, unchanged, again, api.ErrForm},
		{must(some(1)), 3, good, both(in, known), in9, api.OK},
		{g, 3, none, unchanged, again, api.ErrForm},
		{g, 3, good, both(in, known), in9, api.OK},
		{must(g), 3, good, both(in, known), in9, api.OK},
		{busy(), 3, none, shed, nil, api.ErrFull},
		{busy(), 3, good, shed, nil, api.ErrFull},
		{must(busy()), 3, none, unchanged, again, api.ErrForm},
		{must(busy()), 3, good, both(shed, known), nil, api.ErrFull},
		{end(g), 3, none, unchanged, again, api.ErrForm},
		{end(g), 3, good, both(shed, known), nil, api.ErrFull},
		{end(some(0)), 3, none, shed, nil, api.ErrFull},
		{end(some(1)), 3, good, shed, nil, api.ErrFull},
		{most, 3, none, unchanged, nil, api.ErrFull},
		// Who is noted is greeted all the same.
		{busy(), 1, initial(255, nil, helloOf(4)), unchanged, mails(welcome(7, 1, 255, 8)), api.OK},
		{end(must(busy())), 0, initial(5, nil, helloOf(4)), unchanged, mails(welcome(7, 0, 5, 2)), api.OK},
	})
	last := altered(Begin(7, false), func(g *api.Gate) { g.Next = 255 })
	checkHear(t, []hearing{{last, 3, none, func(g *api.Gate) {
		g.Next = 256
		g.Notes = []api.Note{{Id: 255, From: 200, Peer: 3, Key: Session(4, lock.Key(7, 255)), Conn: begunAt(0)}}
	}, mails(welcome(7, 3, 200, 255)), api.OK}})
}

// TestFull: P19.9, whoever is turned away: what there is to tell is told, and who is closed goes, behind it.
func TestFull(t *testing.T) {
	g := altered(owing(), func(g *api.Gate) { g.Notes[1].Conn.Closed = true })
	checkHear(t, []hearing{
		{g, 3, initial(7, nil, helloOf(4)), func(g *api.Gate) {
			tells(g)
			g.Shed++
			g.Notes = append(g.Notes[:1], g.Notes[2])
		}, mails(told(g)), api.ErrFull},
		// What is sent by itself stands ahead of what is flushed.
		{g, 1, initial(255, nil, helloOf(4)), func(g *api.Gate) {
			tells(g)
			g.Notes = append(g.Notes[:1], g.Notes[2])
		}, mails(welcome(7, 1, 255, 8), told(g)), api.OK},
	})
}

// TestSendCounts: P19.6, what can't be counted is not sent; what came of the bytes is told all the same.
func TestSendCounts(t *testing.T) {
	g := altered(Begin(7, true), func(g *api.Gate) { g.Tally[2] = api.Tally{Known: true, Sent: api.MaxTime - 20} })
	one, _, _ := Hear(Begin(7, false), 2, initial(9, nil, helloOf(5)))
	one.Tally[2] = api.Tally{Known: true, Sent: api.MaxTime - 23}
	shown, _ := token.Make(7, 2, 0)
	checkHear(t, []hearing{
		{g, 2, initial(9, nil, helloOf(5)), unchanged, mails(retried(7, 2, 9, 0)), api.ErrForm},
		{altered(g, func(g *api.Gate) { g.Tally[2].Sent++ }), 2, initial(9, nil, helloOf(5)), unchanged, nil, api.ErrForm},
		{g, 2, initial(9, shown, helloOf(5)), func(g *api.Gate) {
			g.Next = 2
			g.Notes = []api.Note{{Id: 1, From: 9, Peer: 2, Key: Session(5, lock.Key(7, 1)), Conn: begunAt(0)}}
		}, nil, api.OK},
		{one, 2, initial(9, nil, helloOf(5)), unchanged, nil, api.OK},
		{altered(one, func(g *api.Gate) { g.Tally[2].Sent-- }), 2, initial(9, nil, helloOf(5)), unchanged, mails(welcome(7, 2, 9, 1)), api.OK},
	})
}

// TestShort: P19.10, a packet of a connection is heard; the note is ready, and the address is known.
func TestShort(t *testing.T) {
	g := altered(busy(), func(g *api.Gate) {
		for i := range g.Notes {
			c := &g.Notes[i].Conn
			c.Space.Sent, c.Pace.Flying = nil, 0
		}
		g.Tally[1] = api.Tally{Got: 300, Sent: 200}
	})
	n := g.Notes[2] // neither heard of, nor known
	ack := api.Frame{Kind: api.Ack, Ranges: []api.Range{{Lo: 3, Hi: 3}}}
	heard := func(number int) func(g *api.Gate) {
		return func(g *api.Gate) {
			g.Notes[2].Ready, g.Tally[1].Known = true, true
			c := &g.Notes[2].Conn
			c.Last = 20
			c.Space.Heard = []api.Range{{Lo: number, Hi: number}}
		}
	}
	answered := func(number int) func(g *api.Gate) {
		return func(g *api.Gate) {
			heard(number)(g)
			g.Notes[2].Conn.Space.Next = 3
		}
	}
	checkHear(t, []hearing{
		{g, 1, short(n, 3, -1, api.Frame{Kind: api.Ping}), answered(3), mails(shortTo(n, 2, -1, ack)), api.OK},
		{g, 1, short(n, 3, -1), heard(3), nil, api.OK},
		{g, 1, short(n, 3, -1, api.Frame{}), heard(3), nil, api.OK},
		// With more bytes of its number than it needs.
		{g, 1, short(n, 1<<30, -1), heard(1 << 30), nil, api.OK},
	})
	// A second time it is not new.
	twice, _, _ := Hear(g, 1, short(n, 3, -1, api.Frame{Kind: api.Ping}))
	checkHear(t, []hearing{{twice, 1, short(n, 3, -1, api.Frame{Kind: api.Ping}), unchanged, nil, api.OK}})
}

// TestShortNone: P19.10, what is none of a note's changes nothing but what was counted.
func TestShortNone(t *testing.T) {
	g := owing()
	n := g.Notes[2]
	ping := api.Frame{Kind: api.Ping}
	other := n
	other.Key++
	wrongWay, _ := Packet(Way(n.Key, false), api.Head{Kind: api.Short, To: n.Id}, 3, -1, []api.Frame{ping})
	elsewhere := short(n, 3, -1, ping)
	elsewhere[1] = 2
	nobody := short(n, 3, -1, ping)
	nobody[1] = 3
	head := []byte{64, 8, 3}
	for _, c := range []struct {
		peer int
		b    []byte
		e    api.Errno
	}{
		{0, short(n, 3, -1, ping), api.ErrNone},
		{2, short(n, 3, -1, ping), api.ErrNone},
		{1, elsewhere, api.ErrNone},
		{0, elsewhere, api.ErrSeal},
		{1, nobody, api.ErrNone},
		{1, short(other, 3, -1, ping), api.ErrSeal},
		{1, wrongWay, api.ErrSeal},
		{1, short(n, 300, 299, ping), api.ErrSeal}, // it is taken for 44
		{1, packed(Way(n.Key, true), 3, head, []byte{3}), api.ErrKind},
		{1, packed(Way(n.Key, true), 3, head, make([]byte, 13)), api.ErrFull},
		{1, packed(Way(n.Key, true), 3, head, []byte{1, 7, 9}), api.ErrShort},
		{1, short(n, 3, -1, ping)[:10], api.ErrShort},
	} {
		checkHear(t, []hearing{{g, c.peer, c.b, tells, mails(told(g)), c.e}})
	}
}

// TestShortTop: P19.10, a number is made whole by the highest one that was heard of.
func TestShortTop(t *testing.T) {
	g := busy()
	set := func(l ...api.Range) api.Gate {
		return altered(g, func(g *api.Gate) { g.Notes[1].Conn.Space.Heard = l })
	}
	n := g.Notes[1]
	for i, c := range []struct {
		g             api.Gate
		number, acked int
		e             api.Errno
	}{
		{set(), 127, -1, api.OK},
		{set(), 128, 127, api.OK},
		{set(), 256, 255, api.ErrSeal},
		{set(api.Range{Lo: 300, Hi: 300}), 310, 309, api.OK},
		{set(api.Range{Lo: 300, Hi: 300}), 429, 428, api.OK},
		{set(api.Range{Lo: 300, Hi: 300}), 430, 429, api.ErrSeal},
		{set(api.Range{Lo: 300, Hi: 300}), 174, 173, api.OK},
		{set(api.Range{Lo: 300, Hi: 300}), 173, 172, api.ErrSeal},
		{set(api.Range{Lo: 2, Hi: 4}, api.Range{Lo: 6, Hi: 9}, api.Range{Lo: 500, Hi: 600}), 728, 727, api.OK},
		{set(api.Range{Lo: 2, Hi: 4}, api.Range{Lo: 6, Hi: 9}, api.Range{Lo: 500, Hi: 600}), 729, 728, api.OK},
		{set(api.Range{Lo: 2, Hi: 4}, api.Range{Lo: 6, Hi: 9}, api.Range{Lo: 500, Hi: 600}), 730, 729, api.ErrSeal},
	} {
		h, _, e := Hear(c.g, 1, short(n, c.number, c.acked, api.Frame{Kind: api.Ping}))
		heard := len(h.Notes) == 3 && h.Notes[1].Conn.Last == 20
		if e != c.e || heard != (e == api.OK) {
			t.Errorf("case %d: Hear = %+v, %d, want %d", i, h, e, c.e)
		}
	}
}

// TestShortRefused: P19.10, what the Conn refuses changes nothing of it; but the note is ready, and the address known.
func TestShortRefused(t *testing.T) {
	beyond := func(g *api.Gate) { g.Notes[2].Conn.Space.Heard = []api.Range{{Lo: api.MaxVar, Hi: api.MaxVar}} }
	g := altered(busy(), func(g *api.Gate) {
		beyond(g)
		g.Tally[1] = api.Tally{Got: 300, Sent: 200}
	})
	n := g.Notes[2]
	b := packed(Way(n.Key, true), api.MaxVar+1, []byte{64, 8, 0}, []byte{1})
	shut := altered(g, func(g *api.Gate) {
		g.Notes[2].Conn = begunAt(5)
		g.Notes[2].Conn.Closed, g.Notes[2].Conn.Code = true, 4
		g.Notes[2].Conn.Queue = []api.Frame{{Kind: api.Close, Code: 4}}
	})
	checkHear(t, []hearing{
		{g, 1, b, func(g *api.Gate) { g.Notes[2].Ready, g.Tally[1].Known = true, true }, nil, api.ErrRange},
		// A closed one says so once, and goes.
		{shut, 1, short(n, 3, -1), func(g *api.Gate) {
			g.Tally[1].Known = true
			g.Notes = g.Notes[:2]
		}, mails(shortTo(n, 0, -1, api.Frame{Kind: api.Close, Code: 4})), api.ErrDone},
	})
}

// TestShortCloses: P19.10, what closes the Conn is no refusal; it is told, and the note goes.
func TestShortCloses(t *testing.T) {
	g := busy()
	n := g.Notes[0]
	gone := func(g *api.Gate) { g.Notes = g.Notes[1:] }
	closing := shortTo(n, 2, -1, api.Frame{Kind: api.Close, Code: int(api.ErrFlow)})
	checkHear(t, []hearing{
		{g, 0, short(n, 9, -1, api.Frame{Kind: api.Stream, Id: 4}), gone, mails(closing), api.OK},
		{g, 0, short(n, 9, -1, api.Frame{Kind: api.Close, Code: 77}), gone, nil, api.OK},
	})
}

// wordy is an endpoint of which each note has much to say; few of it may be on its way, or not.
func wordy(window int) api.Gate {
	return altered(busy(), func(g *api.Gate) {
		for i := range g.Notes {
			c := &g.Notes[i].Conn
			c.Space.Sent = nil
			c.Pace = api.Pace{Window: window, Since: -1}
			c.Lanes = []api.Lane{{Id: 1, In: api.Gather{Final: -1, Window: 300}, Out: api.Sender{Data: text(600), Max: 600}}}
		}
	})
}

// TestFlush: P19.6, at most three packets of each note that is ready, as far as they may be sent.
func TestFlush(t *testing.T) {
	// The first packet has 136 bytes: 3 of its head, 8 of its tag, and 5 beside the 120 of a piece; the further ones, by their Off, 137.
	for i, c := range []struct {
		window int
		tally  [2]api.Tally
		sent   [2]int
	}{
		{4000, [2]api.Tally{{Known: true}, {Known: true}}, [2]int{3, 3}},
		// By its Pace.
		{400, [2]api.Tally{{Known: true}, {Known: true}}, [2]int{2, 2}},
		{200, [2]api.Tally{{Known: true}, {Known: true}}, [2]int{1, 1}},
		// By what the address may be sent: the others are sent theirs all the same.
		{4000, [2]api.Tally{{Got: 100, Sent: 300}, {Known: true, Got: 100, Sent: 300}}, [2]int{0, 3}},
		{4000, [2]api.Tally{{Got: 100, Sent: 165}, {Got: 100, Sent: 164}}, [2]int{0, 1}},
		{4000, [2]api.Tally{{Got: 200, Sent: 328}, {Got: 200, Sent: 327}}, [2]int{1, 2}},
		{4000, [2]api.Tally{{Known: true, Sent: api.MaxTime - 100}, {Known: true}}, [2]int{0, 3}},
	} {
		g := altered(wordy(c.window), func(g *api.Gate) { copy(g.Tally[:], c.tally[:]) })
		want, wantOut := deep(g), mails()
		want.Now++
		for j, n := range c.sent {
			for range n {
				d, number, l, e := conn.Flush(want.Notes[j].Conn, 21)
				mustBe(t, e)
				m := shortTo(want.Notes[j], number, -1, l...)
				want.Notes[j].Conn = d
				want.Tally[j].Sent += len(m.Data)
				wantOut = append(wantOut, m)
			}
		}
		h, out, e := Tick(g, 1)
		if !same(h, want) || !same(out, wantOut) || e != api.OK {
			t.Errorf("case %d: Tick = %+v, %d mails, %d, want %+v, %d mails", i, h, len(out), e, want, len(wantOut))
		}
	}
}

// TestFlushTop: P19.6, numbers are cut for the highest one that was heard of; one that can't be cut is not sent.
func TestFlushTop(t *testing.T) {
	for i, c := range []struct{ next, top, head int }{
		{7, -1, 3},
		{127, -1, 3},
		{128, -1, 4},
		{1000, 872, 3},
		{1000, 871, 4},
		{1<<31 - 1, -1, 6},
		{1 << 31, -1, 0},
		{1 << 31, 0, 6},
	} {
		g := altered(wordy(400), func(g *api.Gate) {
			g.Notes[0].Conn.Space.Next, g.Notes[0].Conn.Space.Top = c.next, c.top
			g.Notes[1].Conn.Lanes = nil
		})
		h, out, e := Tick(g, 1)
		if c.head == 0 {
			if len(out) != 0 || e != api.OK || !same(h.Notes, g.Notes) || !same(h.Tally, g.Tally) {
				t.Errorf("case %d: Tick = %+v, %v, %d, want nothing", i, h, out, e)
			}
			continue
		}
		if e != api.OK || len(out) < 1 || out[0].Data[0] != byte(64+c.head-3) || len(out[0].Data) != c.head+133 {
			t.Errorf("case %d: Tick = %v, %d, want a head of %d", i, out, e, c.head)
		}
	}
}

// TestFlushClosed: P19.6, those that are closed go, whatever becomes of their last packet.
func TestFlushClosed(t *testing.T) {
	closed := func(by func(n *api.Note)) api.Gate {
		return altered(busy(), func(g *api.Gate) {
			n := &g.Notes[1]
			n.Conn.Closed, n.Conn.Code = true, 9
			n.Conn.Queue = []api.Frame{{Kind: api.Close, Code: 9}}
			by(n)
		})
	}
	long := make([]api.Frame, 4)
	for i := range long {
		long[i] = api.Frame{Kind: api.Token, Data: text(120)}
	}
	for i, c := range []struct {
		g    api.Gate
		sent bool
	}{
		{closed(func(*api.Note) {}), true},
		{closed(func(n *api.Note) { n.Conn.Queue = nil }), false},
		{closed(func(n *api.Note) { n.Ready = false }), false},
		{closed(func(n *api.Note) { n.Conn.Queue = long[:3] }), true},
		{closed(func(n *api.Note) { n.Conn.Queue = long }), false},
		{closed(func(n *api.Note) { n.Conn.Space.Next = api.MaxVar }), false},
		{closed(func(n *api.Note) { n.Conn.Space.Next = 1 << 40 }), false},
		{altered(closed(func(*api.Note) {}), func(g *api.Gate) { g.Tally[1].Sent = api.MaxTime }), false},
	} {
		h, out, e := Tick(c.g, 1)
		want := altered(c.g, func(g *api.Gate) { g.Now++; g.Notes = append(g.Notes[:1], g.Notes[2]) })
		wantOut := mails()
		if c.sent {
			m := shortTo(c.g.Notes[1], 2, -1, c.g.Notes[1].Conn.Queue...)
			want.Tally[1].Sent += len(m.Data)
			wantOut = mails(m)
		}
		if !same(h, want) || !same(out, wantOut) || e != api.OK {
			t.Errorf("case %d: Tick = %+v, %v, %d, want %+v, %v", i, h, out, e, want, wantOut)
		}
	}
}

// TestFirstNote: P19.9, of two notes of an address with the same number the first one is meant.
func TestFirstNote(t *testing.T) {
	g := altered(busy(), func(g *api.Gate) { g.Notes[2].From = 5 })
	checkHear(t, []hearing{{g, 1, initial(5, nil, helloOf(1)), unchanged, mails(welcome(7, 1, 5, 5)), api.OK}})
	if bytes.Equal(welcome(7, 1, 5, 5).Data, welcome(7, 1, 5, 8).Data) {
		t.Error("the notes' words are the same")
	}
}
