package gate

import (
	"spillway/api"
	"spillway/frame"
	"spillway/head"
	"spillway/lock"
	"spillway/packno"
)

const (
	wordSize = 8 // bytes of a word
	longest  = 4 // bytes of a number that was cut
)

// First key: that of a first packet by the number of who begins (P19.1).
func First(from int) uint64 {
	return lock.Key(1, from)
}

// Session key of two words (P19.1).
func Session(client, server uint64) uint64 {
	return lock.Mix(client ^ lock.Mix(server))
}

// Way: the key of one way (P19.1).
func Way(key uint64, client bool) uint64 {
	if client {
		return lock.Mix(key)
	}
	return lock.Mix(^key)
}

// Word of bytes, of which only the first ones count (P19.1).
func Word(b []byte) uint64 {
	var word uint64
	for _, x := range b[:min(len(b), wordSize)] {
		word = word<<8 | uint64(x)
	}
	return word
}

// Packet of frames (P19.2).
func Packet(key uint64, h api.Head, number, acked int, l []api.Frame) ([]byte, api.Errno) {
	cut, e := packno.Cut(number, acked)
	if e != api.OK {
		return nil, e
	}
	h.Size, h.Number = len(cut), int(Word(cut))
	b, e := head.Encode(h)
	if e != api.OK {
		return nil, e
	}
	var text []byte
	for _, f := range l {
		one, e := frame.Encode(f)
		if e != api.OK {
			return nil, e
		}
		text = append(text, one...)
	}
	if len(b)+len(text)+api.Tag > api.MaxPacket {
		return nil, api.ErrSize
	}
	return append(b, lock.Seal(key, number, b, text)...), api.OK
}

// Unpack a packet whose head was read (P19.3).
func Unpack(key uint64, h api.Head, used, top int, b []byte) (int, []api.Frame, api.Errno) {
	if h.Size < 1 || h.Size > longest || used < 0 || used > len(b) {
		return 0, nil, api.ErrRange
	}
	number, e := packno.Whole(top, lowest(h.Number, h.Size))
	if e != api.OK {
		return 0, nil, e
	}
	text, e := lock.Open(key, number, b[:used], b[used:])
	if e != api.OK {
		return 0, nil, e
	}
	l, e := frame.All(text)
	if e != api.OK {
		return 0, nil, e
	}
	return number, l, api.OK
}

// lowest bytes of a number, the highest one of them first.
func lowest(n, size int) []byte {
	b := make([]byte, 0, size)
	for shift := 8 * (size - 1); shift >= 0; shift -= 8 {
		b = append(b, byte(n>>shift))
	}
	return b
}
