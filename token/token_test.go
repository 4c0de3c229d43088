package token

import (
	"bytes"
	"encoding/hex"
	"math"
	"slices"
	"testing"

	"spillway/api"
)

// of hexadecimal digits the bytes.
func of(digits string) []byte {
	b, err := hex.DecodeString(digits)
	if err != nil {
		panic(err)
	}
	return b
}

// made are tokens, worked out apart from this program.
var made = []struct {
	secret       uint64
	address, now int
	want         []byte
}{
	{7, 3, 5, of("00000000000000051c65fdb24fc8936d")},
	{7, 3, 1, of("0000000000000001a9b609302829f21f")},
	{7, 4, 5, of("0000000000000005350cf06edec653f3")},
	{8, 3, 5, of("000000000000000548d3b4c86afc65a9")},
	{1, 2, 0x0102030405, of("0000000102030405bac1651e9e901194")},
	// The bounds of times.
	{0, 0, 0, of("0000000000000000a7f72697a2731486")},
	{7, 3, 0, of("00000000000000005f69dd0b06e43fd0")},
	{7, 3, api.MaxTime - 1, of("000000ffffffffff573bcf03d4e5c356")},
	{7, 3, api.MaxTime, of("0000010000000000147e431988eeec2c")},
	// All 64 bits of a secret and of an address count, be it one that no peer has.
	{math.MaxUint64, 3, 100, of("0000000000000064aad97afd463dd991")},
	{1 << 63, 0, 255, of("00000000000000ffd12529f7e969abef")},
	{7, -1, 256, of("0000000000000100fc39c6b73368e823")},
	{7, 1 << 32, 5, of("0000000000000005f083cce51a645cee")},
	{7, math.MaxInt, 5, of("0000000000000005165864ca6fb9dac3")},
	{7, math.MinInt, 5, of("0000000000000005cf48cf2ccc518361")},
}

// tokenOf an address whose time may be.
func tokenOf(t *testing.T, secret uint64, address, now int) []byte {
	t.Helper()
	b, e := Make(secret, address, now)
	if e != api.OK {
		t.Fatalf("Make(%#x, %d, %d) = %d", secret, address, now, e)
	}
	return b
}

// checked tells when the answer of Check is not the one that is wanted.
func checked(t *testing.T, what string, secret uint64, address, now int, b []byte, want api.Errno) {
	t.Helper()
	if got := Check(secret, address, now, b); got != want {
		t.Errorf("%s: Check(%#x, %d, %d, %x) = %d, want %d", what, secret, address, now, b, got, want)
	}
}

// TestMake: P7.1, tokens as they are worked out apart.
func TestMake(t *testing.T) {
	for _, c := range made {
		if b, e := Make(c.secret, c.address, c.now); !bytes.Equal(b, c.want) || e != api.OK {
			t.Errorf("Make(%#x, %d, %d) = %x, %d, want %x, 0", c.secret, c.address, c.now, b, e, c.want)
		}
	}
}

// TestMakeRefuses: P7.1, times outside their bounds.
func TestMakeRefuses(t *testing.T) {
	for _, now := range []int{-1, -5, math.MinInt, api.MaxTime + 1, 2 * api.MaxTime, math.MaxInt} {
		if b, e := Make(7, 3, now); len(b) != 0 || e != api.ErrRange {
			t.Errorf("Make(7, 3, %d) = %x, %d, want none, %d", now, b, e, api.ErrRange)
		}
	}
}

// TestCheck: P7.2, tokens are good from the tick that they were made at till Lifetime behind it, and at no other.
func TestCheck(t *testing.T) {
	for _, c := range made {
		for _, later := range []int{math.MinInt, -c.now - 1, -c.now, -51, -50, -2, -1, 0, 1, 2, 49, 50, 51, 52, 100, api.MaxTime - c.now, api.MaxTime - c.now + 1} {
			now, want := c.now+later, api.OK
			switch {
			case now < 0 || now > api.MaxTime:
				want = api.ErrRange
			case later < 0 || later > 50:
				want = api.ErrOld
			}
			checked(t, "of this time", c.secret, c.address, now, c.want, want)
		}
	}
}

// TestCheckEachTick: P7.2, each tick around a token's life.
func TestCheckEachTick(t *testing.T) {
	b := tokenOf(t, 7, 3, 100)
	for now := range 300 {
		want := api.ErrOld
		if now >= 100 && now <= 100+api.Lifetime {
			want = api.OK
		}
		checked(t, "made at 100", 7, 3, now, b, want)
	}
}

// TestCheckRange: P7.2, times outside their bounds, whatever the token.
func TestCheckRange(t *testing.T) {
	good := tokenOf(t, 7, 3, 5)
	for _, now := range []int{-1, math.MinInt, api.MaxTime + 1, math.MaxInt} {
		for _, b := range [][]byte{nil, {}, good, good[:15], make([]byte, 16), make([]byte, 17)} {
			checked(t, "no time", 7, 3, now, b, api.ErrRange)
		}
	}
}

// TestCheckForm: P7.2, fewer or more bytes than 16, though a token stands in them, or in their spare room.
func TestCheckForm(t *testing.T) {
	checked(t, "nil", 7, 3, 5, nil, api.ErrForm)
	checked(t, "no bytes", 7, 3, 5, []byte{}, api.ErrForm)
	good := tokenOf(t, 7, 3, 5)
	for n := range good {
		checked(t, "its end cut", 7, 3, 5, good[:n], api.ErrForm)
		checked(t, "its beginning cut", 7, 3, 5, good[len(good)-n:], api.ErrForm)
	}
	for _, n := range []int{1, 16, 240} {
		checked(t, "lengthened", 7, 3, 5, slices.Concat(good, make([]byte, n)), api.ErrForm)
		checked(t, "begun ahead", 7, 3, 5, slices.Concat(make([]byte, n), good), api.ErrForm)
	}
	checked(t, "16 zeros", 7, 3, 5, make([]byte, 16), api.ErrSeal)
}

// TestCheckSpoilt: P7.2, tokens of which any one bit is turned, those of their time among them, or of which bytes are changed round.
func TestCheckSpoilt(t *testing.T) {
	for _, c := range made {
		for i := range 8 * len(c.want) {
			b := bytes.Clone(c.want)
			b[i/8] ^= 1 << (i % 8)
			checked(t, "a bit turned", c.secret, c.address, c.now, b, api.ErrSeal)
		}
		b := bytes.Clone(c.want)
		slices.Reverse(b[8:])
		checked(t, "its seal turned round", c.secret, c.address, c.now, b, api.ErrSeal)
		checked(t, "its halves changed round", c.secret, c.address, c.now, slices.Concat(c.want[8:], c.want[:8]), api.ErrSeal)
	}
}

// TestCheckOther: P7.2, a token shown by another address, or checked by another secret: that is told ahead of its age.
func TestCheckOther(t *testing.T) {
	for _, c := range made {
		for _, now := range []int{0, c.now, min(c.now+51, api.MaxTime), api.MaxTime} {
			for i := range 64 {
				checked(t, "another secret", c.secret^1<<i, c.address, now, c.want, api.ErrSeal)
				checked(t, "another address", c.secret, c.address^1<<i, now, c.want, api.ErrSeal)
			}
		}
	}
}

// TestCheckTimeAbove: P7.2, tokens, worked out apart, that were made by the same rule at times that are none, and words that are below 0 or small as numbers of fewer bits.
func TestCheckTimeAbove(t *testing.T) {
	for _, b := range [][]byte{
		of("000001000000000163b222ff2c271877"), // MaxTime + 1
		of("000002000000000075b3bda1580824f5"),
		of("000002000000006471fadc4db75fd747"), // 2^41 + 100
		of("7fffffffffffffff0e2e5d81f956c653"),
		of("800000000000000003c7bdf7b34dce98"),
		of("800000000000006427aace25d79d4b3e"), // 2^63 + 100
		of("ffffffffffffffff74d6f764f7b0d199"),
	} {
		for _, now := range []int{0, 1, 100, 150, api.MaxTime - 1, api.MaxTime} {
			checked(t, "a time above MaxTime", 7, 3, now, b, api.ErrSeal)
		}
	}
}

// TestNewMemory: what is handed in stays as it is, its spare room too, and no two answers share memory.
func TestNewMemory(t *testing.T) {
	for _, c := range made {
		one, two := tokenOf(t, c.secret, c.address, c.now), tokenOf(t, c.secret, c.address, c.now)
		one = one[:cap(one)]
		for i := range one {
			one[i] ^= 255
		}
		if !bytes.Equal(two, c.want) {
			t.Errorf("Make(%#x, %d, %d): two answers share memory", c.secret, c.address, c.now)
		}
		for _, b := range [][]byte{c.want, c.want[:15], slices.Concat(c.want[:15], []byte{0})} {
			room := slices.Concat(b, []byte("spare room of sixteen"))
			kept := bytes.Clone(room)
			Check(c.secret, c.address, c.now, room[:len(b)])
			if !bytes.Equal(room, kept) {
				t.Errorf("Check(%#x, %d, %d, %x) changes it", c.secret, c.address, c.now, b)
			}
		}
	}
}
