package lock

import (
	"bytes"
	"encoding/hex"
	"math"
	"slices"
	"testing"

	"spillway/api"
)

// some bytes, so many, of which no two neighbours are the same.
func some(n int) []byte {
	b := make([]byte, n)
	for i := range b {
		b[i] = byte(i)
	}
	return b
}

// of hexadecimal digits the bytes.
func of(digits string) []byte {
	b, err := hex.DecodeString(digits)
	if err != nil {
		panic(err)
	}
	return b
}

// sealed are seals, worked out apart from this program.
var sealed = []struct {
	key        uint64
	number     int
	head, text []byte
	want       []byte
}{
	{1, 2, nil, nil, of("e68e6fc01df08360")},
	{1, 2, []byte{}, []byte{}, of("e68e6fc01df08360")},
	{1, 2, []byte("head"), nil, of("1ad8c78a97b27505")},
	{1, 2, nil, []byte("head"), of("83b35ab6a8438916d49f362a")},
	{1, 2, []byte("head"), []byte("text"), of("9fb343a610ecaff55ce42a15")},
	{1, 2, []byte("hea"), []byte("dtext"), of("8fa25eaa39bd7a921d5c087195")},
	{0, 0, nil, nil, of("238275bc38fcbe91")},
	{0, 0, []byte{0}, nil, of("5c71e54841c2ce9b")},
	{0, 0, nil, []byte{0}, of("91a4a2979c808b2d25")},
	// Of as many zeros as a word has bytes, of one less, of one more, and of more than two words.
	{0xdeadbeefcafe, 0, []byte("h"), make([]byte, 7), of("fc8783aa816268822b5057e0d9ecb5")},
	{0xdeadbeefcafe, 0, []byte("h"), make([]byte, 8), of("fc8783aa816268ee5299c64d102d0a1b")},
	{0xdeadbeefcafe, 0, []byte("h"), make([]byte, 9), of("fc8783aa816268ee8e3a1a72a21bc3ce74")},
	{0xdeadbeefcafe, 0, []byte("h"), make([]byte, 17), of("fc8783aa816268ee8e561656d090a9f2f925ed35a99954401e")},
	{math.MaxUint64, -1, []byte{255}, []byte{255, 255}, of("f5c1ef4cde3d66760684")},
	{math.MaxUint64, math.MaxInt, nil, []byte("a"), of("1d93193d0854d486db")},
	{1 << 63, math.MinInt, []byte("a"), nil, of("c3461de1b1d5dfb2")},
	// All 64 bits of a number count.
	{9, 0, []byte("x"), make([]byte, 16), of("5eaa04f92010e43ba1bd401177a9cfb1d5d0b592df20d740")},
	{9, 1 << 32, []byte("x"), make([]byte, 16), of("cfa739e5d662831b124dcff895f4dc903ab3758866e8c257")},
	// Its start is the highest word there is: the word behind it is 0.
	{0x5261b1fad8a8f2f1, 5, nil, make([]byte, 16), of("202c651b7771d9e4afcd1d7b39a820e28b30498ce65e1c1b")},
}

// TestMix: P6.1, the words that the chapter tells, and such as go round.
func TestMix(t *testing.T) {
	for _, c := range []struct{ x, want uint64 }{
		{0, 0xe220a8397b1dcdaf},
		{1, 0x910a2dec89025cc1},
		{2, 0x975835de1c9756ce},
		{255, 0x338c507146283fb4},
		{1 << 63, 0x481ec0a212a9f3db},
		{math.MaxUint64, 0xe4d971771b652c20},
		{0x61c8864680b583eb, 0},
		{0x9e3779b97f4a7c15, 0x6e789e6aa1b965f4},
		{1234567, 0x599ed017fb08fc85},
		{0x9e3779b97f5d529c, 0x2c73f08458540fa5},
	} {
		if got := Mix(c.x); got != c.want {
			t.Errorf("Mix(%#x) = %#x, want %#x", c.x, got, c.want)
		}
	}
}

// TestKey: P6.2, the key that the chapter tells, and those of numbers below 0 and at the bounds.
func TestKey(t *testing.T) {
	for _, c := range []struct {
		secret uint64
		n      int
		want   uint64
	}{
		{1, 2, 0xbcd9dbb49673066b},
		{2, 1, 0xe06dd043328bd285},
		{0, 0, 0xa706dd2f4d197e6f},
		{0, -1, 0x2dd82c88fa32b270},
		{3, 4, 0x9836d4cbef5e8891},
		{1 << 63, 256, 0x58d7704f87066737},
		{math.MaxUint64, math.MaxInt, 0xb29810847c255d81},
		{7, math.MinInt, 0x7e44eb9e75b86b14},
	} {
		if got := Key(c.secret, c.n); got != c.want {
			t.Errorf("Key(%#x, %d) = %#x, want %#x", c.secret, c.n, got, c.want)
		}
	}
}

// TestSeal: P6.3, seals as they are worked out apart.
func TestSeal(t *testing.T) {
	for _, c := range sealed {
		if got := Seal(c.key, c.number, c.head, c.text); !bytes.Equal(got, c.want) {
			t.Errorf("Seal(%#x, %d, %v, %v) = %x, want %x", c.key, c.number, c.head, c.text, got, c.want)
		}
	}
}

// TestSealLong: P6.3, a text of more words, and a head of more bytes, than a byte can count.
func TestSealLong(t *testing.T) {
	text := some(3000)
	b := Seal(77, 88, bytes.Repeat([]byte{9}, 300), text)
	if len(b) != 3008 {
		t.Fatalf("a seal of 3000 bytes has %d", len(b))
	}
	if want := of("0c1b749f4d782cce7d16f3c4b15086f0"); !bytes.Equal(b[2040:2056], want) {
		t.Errorf("bytes 2040 to 2055 = %x, want %x", b[2040:2056], want)
	}
	if want := of("8a91aef04096352d38de7281c7a5a1b4"); !bytes.Equal(b[2992:], want) {
		t.Errorf("the last 16 bytes = %x, want %x", b[2992:], want)
	}
}

// TestSealTurns: P6.3, which byte of which word each place of a text is turned by, whatever the text.
func TestSealTurns(t *testing.T) {
	for _, key := range []uint64{0, 1, 1 << 63, math.MaxUint64} {
		for _, number := range []int{0, 1, -1, math.MaxInt, math.MinInt} {
			start := Mix(key ^ Mix(uint64(number)))
			for n := range 40 {
				text := some(n)
				b := Seal(key, number, some(3), text)
				if len(b) != n+api.Tag {
					t.Fatalf("a seal of %d bytes has %d", n, len(b))
				}
				for i, x := range text {
					want := byte(Mix(start+uint64(i/8)) >> (i % 8 * 8))
					if b[i]^x != want {
						t.Errorf("Seal(%#x, %d, of %d bytes): place %d is turned by %d, want %d", key, number, n, i, b[i]^x, want)
					}
				}
			}
		}
	}
}

// TestOpen: P6.4, the texts of the seals, and no other.
func TestOpen(t *testing.T) {
	for _, c := range sealed {
		if got, e := Open(c.key, c.number, c.head, c.want); !bytes.Equal(got, c.text) || e != api.OK {
			t.Errorf("Open(%#x, %d, %v, %x) = %v, %d, want %v, 0", c.key, c.number, c.head, c.want, got, e, c.text)
		}
	}
	for _, n := range []int{0, 1, 7, 8, 9, 63, 64, 65, 255, 256, 257, 400, 3000} {
		text := some(n)
		if got, e := Open(5, 6, some(n), Seal(5, 6, some(n), text)); !bytes.Equal(got, text) || e != api.OK {
			t.Errorf("Open of a seal of %d bytes = %v, %d", n, got, e)
		}
	}
}

// TestOpenShort: P6.4, fewer bytes than a tag has, though there is spare room behind them, be they a tag's or not.
func TestOpenShort(t *testing.T) {
	if got, e := Open(1, 2, nil, nil); len(got) != 0 || e != api.ErrShort {
		t.Errorf("Open of no bytes = %v, %d, want none, %d", got, e, api.ErrShort)
	}
	whole := Seal(1, 2, nil, nil)
	for n := range api.Tag {
		for _, b := range [][]byte{whole[:n], make([]byte, n), some(n)} {
			if got, e := Open(1, 2, nil, b); len(got) != 0 || e != api.ErrShort {
				t.Errorf("Open(%x) = %v, %d, want none, %d", b, got, e, api.ErrShort)
			}
		}
	}
	if got, e := Open(1, 2, nil, make([]byte, api.Tag)); len(got) != 0 || e != api.ErrSeal {
		t.Errorf("Open of eight zeros = %v, %d, want none, %d", got, e, api.ErrSeal)
	}
}

// refused is told when bytes are opened that are no seal.
func refused(t *testing.T, what string, key uint64, number int, head, b []byte) {
	t.Helper()
	if got, e := Open(key, number, head, b); len(got) != 0 || e != api.ErrSeal {
		t.Errorf("%s: Open(%#x, %d, %v, %x) = %v, %d, want none, %d", what, key, number, head, b, got, e, api.ErrSeal)
	}
}

// TestOpenSpoilt: P6.4, a seal of which any one bit is turned, or that is cut or lengthened.
func TestOpenSpoilt(t *testing.T) {
	for _, c := range sealed {
		for i := range 8 * len(c.want) {
			b := bytes.Clone(c.want)
			b[i/8] ^= 1 << (i % 8)
			refused(t, "a bit turned", c.key, c.number, c.head, b)
		}
		for n := api.Tag; n < len(c.want); n++ {
			refused(t, "its end cut", c.key, c.number, c.head, c.want[:n])
			refused(t, "its beginning cut", c.key, c.number, c.head, c.want[len(c.want)-n:])
		}
		refused(t, "lengthened", c.key, c.number, c.head, slices.Concat(c.want, []byte{0}))
		refused(t, "begun ahead", c.key, c.number, c.head, slices.Concat([]byte{0}, c.want))
		tag := bytes.Clone(c.want)
		slices.Reverse(tag[len(tag)-api.Tag:])
		refused(t, "its tag turned round", c.key, c.number, c.head, tag)
	}
}

// TestOpenOther: P6.4, a seal opened with another key, number or head.
func TestOpenOther(t *testing.T) {
	for _, c := range sealed {
		for i := range 64 {
			refused(t, "another key", c.key^1<<i, c.number, c.head, c.want)
			refused(t, "another number", c.key, c.number^1<<i, c.head, c.want)
		}
		for i := range 8 * len(c.head) {
			head := bytes.Clone(c.head)
			head[i/8] ^= 1 << (i % 8)
			refused(t, "another head", c.key, c.number, head, c.want)
		}
		for n := range c.head {
			refused(t, "a shorter head", c.key, c.number, c.head[:n], c.want)
		}
		refused(t, "a longer head", c.key, c.number, slices.Concat(c.head, []byte{0}), c.want)
	}
}

// TestOpenMoved: P6.3 and P6.4, the same bytes parted elsewhere between head and text have other tags.
func TestOpenMoved(t *testing.T) {
	all := make([]byte, 20)
	tags := map[string]int{}
	for n := range len(all) + 1 {
		b := Seal(3, 4, all[:n], all[n:])
		tags[string(b[len(b)-api.Tag:])]++
	}
	if len(tags) != len(all)+1 {
		t.Errorf("of %d partings there are %d tags", len(all)+1, len(tags))
	}
}

// TestNewMemory: what is handed in stays as it is, its spare room too, and no answer shares memory with it or with another one.
func TestNewMemory(t *testing.T) {
	for _, c := range sealed {
		headRoom, textRoom := slices.Concat(c.head, some(20)), slices.Concat(c.text, some(20))
		head, text := headRoom[:len(c.head)], textRoom[:len(c.text)]
		one, two := Seal(c.key, c.number, head, text), Seal(c.key, c.number, head, text)
		spoil(one)
		if !bytes.Equal(headRoom, slices.Concat(c.head, some(20))) || !bytes.Equal(textRoom, slices.Concat(c.text, some(20))) || !bytes.Equal(two, c.want) {
			t.Errorf("Seal(%#x, %d, %v, %v) changes, or shares, what was handed in, or two answers share memory", c.key, c.number, c.head, c.text)
		}
		room := slices.Concat(c.want, some(20))
		first, _ := Open(c.key, c.number, head, room[:len(c.want)])
		second, _ := Open(c.key, c.number, head, room[:len(c.want)])
		spoil(first)
		if !bytes.Equal(headRoom, slices.Concat(c.head, some(20))) || !bytes.Equal(room, slices.Concat(c.want, some(20))) || !bytes.Equal(second, c.text) {
			t.Errorf("Open(%#x, %d, %v, %x) changes, or shares, what was handed in, or two answers share memory", c.key, c.number, c.head, c.want)
		}
		clear(room)
		if !bytes.Equal(second, c.text) {
			t.Errorf("Open(%#x, %d, %v, %x) keeps what was handed in", c.key, c.number, c.head, c.want)
		}
	}
}

// spoil bytes, and their spare room.
func spoil(b []byte) {
	b = b[:cap(b)]
	for i := range b {
		b[i] ^= 255
	}
}
