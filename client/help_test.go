package client

import (
	"bytes"
	"math"
	"reflect"
	"testing"

	"spillway/api"
	"spillway/conn"
	"spillway/frame"
	"spillway/gate"
	"spillway/lock"
)

// mustBe ends a test whose own preparations are wrong.
func mustBe(t *testing.T, e api.Errno) {
	t.Helper()
	if e != api.OK {
		t.Fatalf("refused: %d", e)
	}
}

func text(n int) []byte {
	b := make([]byte, n)
	for i := range b {
		b[i] = byte(i*7 + i/256)
	}
	return b
}

// begunAt is a client's end that begins.
func begunAt(now int) api.Conn {
	c, _ := conn.Begin(true, now)
	return c
}

// newcomer is a client that knows nothing yet.
func newcomer() api.Client {
	return api.Client{Peer: 2, Id: 7, Word: 99, Conn: begunAt(0)}
}

// known is a client that knows the endpoint, and has heard, sent and read something; it has something in all of its lists, and nothing to tell.
func known() api.Client {
	c := api.Client{Peer: 3, Id: 8, Word: 1<<63 + 5, Token: text(16), To: 4, Key: 1 << 62, Conn: begunAt(0)}
	k := &c.Conn
	k.Space = api.Space{Next: 5, Top: 2, Heard: []api.Range{{Lo: 0, Hi: 3}, {Lo: 5, Hi: 6}}, Skip: []int{1}, Sent: []api.Parcel{
		{Number: 3, Time: 14, Size: 60, Frames: []api.Frame{{Kind: api.Stream, Id: 1, Fin: true, Data: text(2)}, {Kind: api.Ack, Ranges: []api.Range{{Lo: 0, Hi: 1}}}}},
	}}
	k.Pace.Flying = 60
	k.Flow.Used, k.Credit.Used = 9, 5
	k.Opened, k.Last = 2, 15
	k.Lanes = []api.Lane{
		{Id: 0, In: api.Gather{Done: 5, Final: -1, Window: 300, Held: []api.Piece{{Off: 7, Data: text(3)}}}, Read: text(5), Out: api.Sender{Max: 300}},
		{Id: 1, In: api.Gather{Done: 4, Final: 4, Window: 300}, Over: true, Read: text(4), Out: api.Sender{Data: text(2), Fin: true, Max: 300, Next: 2, Acked: []api.Range{{Lo: 0, Hi: 0}}, Ended: true}},
	}
	k.Queue = []api.Frame{}
	return c
}

// queueing is a client that has a response to tell.
func queueing(c api.Client) api.Client {
	return altered(c, func(c *api.Client) { c.Conn.Queue = []api.Frame{{Kind: api.Response, Code: 3}} })
}

// altered is a client that is altered by hand.
func altered(c api.Client, by func(c *api.Client)) api.Client {
	c = deep(c)
	by(&c)
	return c
}

// flushed is how a client is, and what it sends, when so many packets of its Conn go out.
func flushed(t *testing.T, c api.Client, now, packets int) (api.Client, [][]byte) {
	t.Helper()
	var out [][]byte
	for range packets {
		k, number, l, e := conn.Flush(c.Conn, now)
		mustBe(t, e)
		if len(l) == 0 {
			t.Fatal("there is nothing to be flushed")
		}
		out = append(out, shortUp(c, number, l...))
		c.Conn = k
	}
	return c, out
}

// shortUp is a packet of a client, whose number is below 100 more than the highest one that was heard of.
func shortUp(c api.Client, number int, l ...api.Frame) []byte {
	return packed(gate.Way(c.Key, true), number, []byte{64, byte(c.To), byte(number)}, bytesOf(l...))
}

// shortDown is a packet to a client.
func shortDown(c api.Client, number, acked int, l ...api.Frame) []byte {
	b, e := gate.Packet(gate.Way(c.Key, false), api.Head{Kind: api.Short, To: c.Id}, number, acked, l)
	if e != api.OK {
		panic("a test's packet is refused")
	}
	return b
}

// welcome is a first packet to a client, of these frames.
func welcome(c api.Client, from int, l ...api.Frame) []byte {
	return packed(lock.Key(1, c.Id), 0, []byte{192, byte(c.Id), byte(from), 0, 0}, bytesOf(l...))
}

// retried is what tells a client a token of fewer than 64 bytes.
func retried(c api.Client, shown []byte) []byte {
	return append([]byte{240, byte(c.Id), 0, byte(len(shown))}, shown...)
}

// greeting is the first packet of a client.
func greeting(c api.Client) []byte {
	head := append([]byte{192, 0, byte(c.Id)}, lengthOf(c.Token)...)
	head = append(append(head, c.Token...), 0)
	return packed(lock.Key(1, c.Id), 0, head, bytesOf(helloOf(c.Word)))
}

// lengthOf bytes, as a number of one or two bytes.
func lengthOf(b []byte) []byte {
	if len(b) < 64 {
		return []byte{byte(len(b))}
	}
	return []byte{64, byte(len(b))}
}

// wordBytes are a word in eight bytes, the highest one first.
func wordBytes(w uint64) []byte {
	b := make([]byte, 8)
	for i := range b {
		b[7-i] = byte(w >> (8 * i))
	}
	return b
}

// helloOf a word.
func helloOf(w uint64) api.Frame { return api.Frame{Kind: api.Hello, Data: wordBytes(w)} }

// packed is a packet, by its parts.
func packed(key uint64, number int, head, text []byte) []byte {
	return append(bytes.Clone(head), lock.Seal(key, number, head, text)...)
}

// bytesOf frames.
func bytesOf(l ...api.Frame) []byte {
	var out []byte
	for _, f := range l {
		b, e := frame.Encode(f)
		if e != api.OK {
			panic("a test's frame is refused")
		}
		out = append(out, b...)
	}
	return out
}

// outside are numbers that are not from 0 to a top.
func outside(top int) []int {
	return []int{math.MinInt, math.MinInt + 1, -api.MaxVar, -2, -1, top + 1, top + 2, math.MaxInt - 1, math.MaxInt}
}

// deep is anything in new memory; lists without elements are nil in it, so that they are all alike.
func deep[T any](x T) T {
	return copied(reflect.ValueOf(x), 0).Interface().(T)
}

// spareItems are how many items of spare room each list of a spacious thing has.
const spareItems = 3

// spacious is a thing in which all lists have spare room, which is filled with what is not zero.
func spacious[T any](x T) T {
	return copied(reflect.ValueOf(x), spareItems).Interface().(T)
}

// copied is a thing in new memory, in which all lists have so many items of spare room.
func copied(v reflect.Value, room int) reflect.Value {
	out := reflect.New(v.Type()).Elem()
	switch v.Kind() {
	case reflect.Struct:
		for i := range v.NumField() {
			out.Field(i).Set(copied(v.Field(i), room))
		}
	case reflect.Slice:
		if v.Len()+room > 0 {
			out.Set(reflect.MakeSlice(v.Type(), v.Len()+room, v.Len()+room))
		}
		for i := range out.Len() {
			if i < v.Len() {
				out.Index(i).Set(copied(v.Index(i), room))
				continue
			}
			mark(out.Index(i))
		}
		out.Set(out.Slice(0, v.Len()))
	default:
		out.Set(v)
	}
	return out
}

// mark the first number in a thing.
func mark(v reflect.Value) {
	switch v.Kind() {
	case reflect.Struct:
		mark(v.Field(0))
	case reflect.Uint8:
		v.SetUint(0xa5)
	case reflect.Int:
		v.SetInt(0x5a5a)
	}
}

// spare tells whether the spare room of all lists is still as it was marked.
func spare(x any) bool {
	clean := true
	eachList(reflect.ValueOf(x), func(l reflect.Value) {
		if l.Len() == l.Cap() {
			return
		}
		want := reflect.New(l.Type().Elem()).Elem()
		mark(want)
		all := l.Slice(0, l.Cap())
		for i := l.Len(); i < all.Len(); i++ {
			clean = clean && reflect.DeepEqual(all.Index(i).Interface(), want.Interface())
		}
	})
	return clean
}

// eachList in a thing is told.
func eachList(v reflect.Value, tell func(l reflect.Value)) {
	switch v.Kind() {
	case reflect.Struct:
		for i := range v.NumField() {
			eachList(v.Field(i), tell)
		}
	case reflect.Slice:
		tell(v)
		for i := range v.Len() {
			eachList(v.Index(i), tell)
		}
	}
}

// sharing tells whether any two lists in these things share memory, spare room too.
func sharing(l ...any) bool {
	type room struct{ from, to uintptr }
	var all []room
	for _, x := range l {
		eachList(reflect.ValueOf(x), func(l reflect.Value) {
			from := l.Pointer()
			all = append(all, room{from, from + uintptr(l.Cap())*l.Type().Elem().Size()})
		})
	}
	for i, a := range all {
		for _, b := range all[:i] {
			if a.from < b.to && b.from < a.to {
				return true
			}
		}
	}
	return false
}

func same[T any](a, b T) bool {
	return reflect.DeepEqual(deep(a), deep(b))
}

// TestHelpers: the helpers of these tests see what they are to see.
func TestHelpers(t *testing.T) {
	c := known()
	if !sharing(c, c) || sharing(c, deep(c)) || !same(c, spacious(c)) || !spare(spacious(c)) || same(c, newcomer()) {
		t.Error("the helpers are blind")
	}
	d := spacious(c)
	_ = append(d.Conn.Lanes[1].Out.Data, 1)
	if spare(d) {
		t.Error("what is written to spare room is not seen")
	}
}
