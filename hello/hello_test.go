package hello

import (
	"bytes"
	"testing"

	"spillway/api"
)

// TestFrame: a word in eight bytes, the highest one first.
func TestFrame(t *testing.T) {
	for _, c := range []struct {
		word uint64
		want []byte
	}{
		{0, []byte{0, 0, 0, 0, 0, 0, 0, 0}},
		{1, []byte{0, 0, 0, 0, 0, 0, 0, 1}},
		{0x0102030405060708, []byte{1, 2, 3, 4, 5, 6, 7, 8}},
		{1<<64 - 1, []byte{255, 255, 255, 255, 255, 255, 255, 255}},
	} {
		f := Frame(c.word)
		if f.Kind != api.Hello || f.Off != 0 || f.Id != 0 || f.Fin || f.Code != 0 || f.Ranges != nil || !bytes.Equal(f.Data, c.want) {
			t.Errorf("Frame(%x) = %v, want a Hello of %v", c.word, f, c.want)
		}
		if b, some := Find([]api.Frame{f}); !some || !bytes.Equal(b, c.want) {
			t.Errorf("Find of that = %v, %v", b, some)
		}
	}
}

// TestFind: the first Hello that has Off 0 and eight bytes, in new memory.
func TestFind(t *testing.T) {
	long, short := []byte("123456789"), []byte("1234567")
	one := api.Frame{Kind: api.Hello, Data: []byte("abcdefgh")}
	none := []api.Frame{
		{Kind: api.Hello},
		{Kind: api.Hello, Data: long},
		{Kind: api.Hello, Data: short},
		{Kind: api.Hello, Off: 1, Data: long[:8]},
		{Kind: api.Hello, Off: -1, Data: long[:8]},
		{Kind: api.Token, Data: long[:8]},
		{Kind: api.Stream, Data: long[:8]},
		{Kind: api.Ping},
	}
	if b, some := Find(nil); some || b != nil {
		t.Errorf("Find(nil) = %v, %v, want none", b, some)
	}
	if b, some := Find(none); some || b != nil {
		t.Errorf("Find(%v) = %v, %v, want none", none, b, some)
	}
	l := append(none, one, Frame(7))
	b, some := Find(l)
	if !some || string(b) != "abcdefgh" {
		t.Fatalf("Find(%v) = %v, %v", l, b, some)
	}
	clear(b[:cap(b)])
	if string(one.Data) != "abcdefgh" {
		t.Error("Find shares memory with what is handed in")
	}
}
