package prefix

import (
	"bytes"
	"math"
	"math/big"
	"math/rand/v2"
	"slices"
	"strings"
	"testing"

	"spillway/api"
)

// noWidths are widths that no number has.
var noWidths = []int{math.MinInt, -8, -1, 0, 9, 10, 16, 63, 64, 65, 72, math.MaxInt}

// noNumbers are numbers below 0, or above MaxVar.
var noNumbers = []int{math.MinInt, math.MinInt + 1, -api.MaxVar, -256, -1, api.MaxVar + 1, api.MaxVar + 2, math.MaxInt}

// fill is so many bytes alike.
func fill(x byte, n int) []byte { return bytes.Repeat([]byte{x}, n) }

// encoded: Encode answers these bytes, and Decode tells the number of them again.
func encoded(t *testing.T, first byte, width, n int, want []byte) {
	t.Helper()
	b, e := Encode(first, width, n)
	if !bytes.Equal(b, want) || e != api.OK {
		t.Errorf("Encode(%d, %d, %d) = %v, %d, want %v, 0", first, width, n, b, e, want)
	}
	decoded(t, want, width, n, len(want))
}

// decoded: Decode answers this number, and so many bytes.
func decoded(t *testing.T, b []byte, width, n, used int) {
	t.Helper()
	if got, k, e := Decode(b, width); got != n || k != used || e != api.OK {
		t.Errorf("Decode(%v, %d) = %d, %d, %d, want %d, %d, 0", b, width, got, k, e, n, used)
	}
}

// undecoded: Decode answers this error, Read the same one, and nothing else.
func undecoded(t *testing.T, b []byte, width int, want api.Errno) {
	t.Helper()
	if n, k, e := Decode(b, width); n != 0 || k != 0 || e != want {
		t.Errorf("Decode(%v, %d) = %d, %d, %d, want 0, 0, %d", b, width, n, k, e, want)
	}
	unread(t, b, width, want)
}

// unread: Read answers this error, and nothing else.
func unread(t *testing.T, b []byte, width int, want api.Errno) {
	t.Helper()
	if s, k, e := Read(b, width); s != "" || k != 0 || e != want {
		t.Errorf("Read(%v, %d) = %q, %d, %d, want nothing and %d", b, width, s, k, e, want)
	}
}

// TestEncode: P13.1, numbers at the bounds of one byte, two and more, in every width.
func TestEncode(t *testing.T) {
	for _, c := range []struct {
		first    byte
		width, n int
		want     []byte
	}{
		{0, 1, 0, []byte{0}},
		{254, 1, 0, []byte{254}},
		{0, 1, 1, []byte{1, 0}},
		{254, 1, 2, []byte{255, 1}},
		{0, 1, 128, []byte{1, 127}},
		{0, 1, 129, []byte{1, 128, 1}},
		{8, 2, 2, []byte{10}},
		{8, 2, 3, []byte{11, 0}},
		{32, 3, 6, []byte{38}},
		{32, 3, 7, []byte{39, 0}},
		{32, 3, 8, []byte{39, 1}},
		{64, 4, 10, []byte{74}},
		{64, 4, 15, []byte{79, 0}},
		{64, 4, 142, []byte{79, 127}},
		{64, 4, 143, []byte{79, 128, 1}},
		{0, 5, 10, []byte{10}},
		{64, 5, 30, []byte{94}},
		{224, 5, 31, []byte{255, 0}},
		{0, 5, 31 + 127, []byte{31, 127}},
		{0, 5, 31 + 128, []byte{31, 128, 1}},
		{0, 5, 1337, []byte{31, 154, 10}},
		{0, 5, 31 + 1<<14 - 1, []byte{31, 255, 127}},
		{0, 5, 31 + 1<<14, []byte{31, 128, 128, 1}},
		{128, 6, 62, []byte{190}},
		{192, 6, 63, []byte{255, 0}},
		{128, 7, 126, []byte{254}},
		{0, 7, 127, []byte{127, 0}},
		{128, 7, 254, []byte{255, 127}},
		{128, 7, 255, []byte{255, 128, 1}},
		{0, 8, 0, []byte{0}},
		{0, 8, 42, []byte{42}},
		{0, 8, 254, []byte{254}},
		{0, 8, 255, []byte{255, 0}},
		{0, 8, 255 + 1<<21 - 1, []byte{255, 255, 255, 127}},
		{0, 8, 255 + 1<<21, []byte{255, 128, 128, 128, 1}},
		{0, 8, 255 + 1<<56 - 1, slices.Concat(fill(255, 8), []byte{127})},
		{0, 8, 255 + 1<<56, slices.Concat([]byte{255}, fill(128, 8), []byte{1})},
		{0, 1, api.MaxVar - 1, []byte{1, 253, 255, 255, 255, 255, 255, 255, 255, 63}},
		{0, 1, api.MaxVar, []byte{1, 254, 255, 255, 255, 255, 255, 255, 255, 63}},
		{224, 5, api.MaxVar, []byte{255, 224, 255, 255, 255, 255, 255, 255, 255, 63}},
		{0, 7, api.MaxVar, []byte{127, 128, 255, 255, 255, 255, 255, 255, 255, 63}},
		{0, 8, api.MaxVar, []byte{255, 128, 254, 255, 255, 255, 255, 255, 255, 63}},
	} {
		encoded(t, c.first, c.width, c.n, c.want)
	}
}

// TestEncodeEachFirst: P13.1, each first byte in each width: it is kept but for its lowest bits, none of which may be set.
func TestEncodeEachFirst(t *testing.T) {
	for width := 1; width <= 8; width++ {
		top := 1<<width - 1
		for first := range 256 {
			for _, n := range []int{0, 1, top / 2, top - 1, top, top + 1, top + 127, api.MaxVar} {
				b, e := Encode(byte(first), width, n)
				if first%(top+1) != 0 {
					if len(b) != 0 || e != api.ErrForm {
						t.Errorf("Encode(%d, %d, %d) = %v, %d, want none, %d", first, width, n, b, e, api.ErrForm)
					}
					continue
				}
				if len(b) == 0 || int(b[0]) != first+min(n, top) || (len(b) == 1) != (n < top) || e != api.OK {
					t.Errorf("Encode(%d, %d, %d) = %v, %d", first, width, n, b, e)
				}
			}
		}
	}
}

// TestEncodeRefuses: P13.1, widths and numbers out of bounds, ahead of bits that are set.
func TestEncodeRefuses(t *testing.T) {
	refused := func(first byte, width, n int) {
		t.Helper()
		if b, e := Encode(first, width, n); len(b) != 0 || e != api.ErrRange {
			t.Errorf("Encode(%d, %d, %d) = %v, %d, want none, %d", first, width, n, b, e, api.ErrRange)
		}
	}
	for _, first := range []byte{0, 1, 128, 255} {
		for _, width := range noWidths {
			for _, n := range append([]int{0, 1, 300, api.MaxVar}, noNumbers...) {
				refused(first, width, n)
			}
		}
		for width := 1; width <= 8; width++ {
			for _, n := range noNumbers {
				refused(first, width, n)
			}
		}
	}
}

// plain tells by divisions what a number's bytes are, in numbers that know no bounds (P13.1).
func plain(first byte, width int, n *big.Int) []byte {
	top := big.NewInt(1<<width - 1)
	if n.Cmp(top) < 0 {
		return []byte{first + byte(n.Int64())}
	}
	b := []byte{first + byte(top.Int64())}
	rest, digit := new(big.Int).Sub(n, top), new(big.Int)
	for {
		rest.DivMod(rest, big.NewInt(128), digit)
		if rest.Sign() == 0 {
			return append(b, byte(digit.Int64()))
		}
		b = append(b, 128+byte(digit.Int64()))
	}
}

// TestEncodePlain: P13.1 and P13.2, small numbers, numbers beside powers of two, and numbers by chance.
func TestEncodePlain(t *testing.T) {
	var list []int
	for n := range 40000 {
		list = append(list, n)
	}
	for shift := 15; shift <= 62; shift++ {
		for d := -300; d <= 300; d++ {
			list = append(list, 1<<shift+d)
		}
	}
	dice := rand.New(rand.NewPCG(13, 1))
	for range 40000 {
		list = append(list, dice.IntN(1<<62)>>dice.IntN(62))
	}
	for _, n := range list {
		if n > api.MaxVar {
			continue
		}
		for width := 1; width <= 8; width++ {
			first := byte(dice.IntN(256) >> width << width)
			encoded(t, first, width, n, plain(first, width, big.NewInt(int64(n))))
		}
	}
}

// TestDecode: P13.2, other bits of the first byte, more digits than the fewest, and bytes behind them.
func TestDecode(t *testing.T) {
	for _, c := range []struct {
		b              []byte
		width, n, used int
	}{
		{[]byte{10}, 5, 10, 1},
		{[]byte{234}, 5, 10, 1},
		{[]byte{30, 255, 255}, 5, 30, 1},
		{[]byte{31, 0}, 5, 31, 2},
		{[]byte{255, 0}, 5, 31, 2},
		{[]byte{31, 154, 10, 7}, 5, 1337, 3},
		{[]byte{191, 154, 10, 255}, 5, 1337, 3},
		{[]byte{31, 128, 0}, 5, 31, 3},
		{[]byte{31, 129, 0}, 5, 32, 3},
		{[]byte{31, 154, 138, 0}, 5, 1337, 4},
		{[]byte{31, 154, 138, 128, 128, 128, 128, 128, 128, 0}, 5, 1337, 10},
		{slices.Concat([]byte{31}, fill(128, 8), []byte{0}), 5, 31, 10},
		{slices.Concat([]byte{31}, fill(128, 8), []byte{0, 255}), 5, 31, 10},
		{[]byte{0}, 1, 0, 1},
		{[]byte{254, 9}, 1, 0, 1},
		{[]byte{1, 0}, 1, 1, 2},
		{[]byte{255, 1}, 1, 2, 2},
		{[]byte{254}, 8, 254, 1},
		{[]byte{255, 0}, 8, 255, 2},
		{[]byte{255, 127, 128}, 8, 382, 2},
	} {
		decoded(t, c.b, c.width, c.n, c.used)
	}
}

// TestDecodeEachFirst: P13.2, each first byte in each width, alone and with digits behind it.
func TestDecodeEachFirst(t *testing.T) {
	for width := 1; width <= 8; width++ {
		top := 1<<width - 1
		for first := range 256 {
			n := first % (top + 1)
			if n < top {
				decoded(t, []byte{byte(first)}, width, n, 1)
				decoded(t, []byte{byte(first), 133, 1}, width, n, 1)
				continue
			}
			undecoded(t, []byte{byte(first)}, width, api.ErrShort)
			decoded(t, []byte{byte(first), 5, 1}, width, n+5, 2)
			decoded(t, []byte{byte(first), 133, 1}, width, n+133, 3)
		}
	}
}

// TestDecodeRefuses: P13.2, widths out of bounds ahead of all, and no bytes.
func TestDecodeRefuses(t *testing.T) {
	for _, width := range noWidths {
		for _, b := range [][]byte{nil, {}, {0}, {1}, {31, 128}, {255}, {3, 'a'}, fill(128, 20), fill(255, 20)} {
			undecoded(t, b, width, api.ErrRange)
		}
	}
	for width := 1; width <= 8; width++ {
		undecoded(t, nil, width, api.ErrShort)
		undecoded(t, []byte{}, width, api.ErrShort)
	}
}

// TestDecodeShort: P13.2, numbers cut short, though their rest stands in the spare room.
func TestDecodeShort(t *testing.T) {
	for width := 1; width <= 8; width++ {
		for _, n := range []int{255, 256, 1337, 1 << 20, 1 << 40, 1 << 57, api.MaxVar} {
			b, _ := Encode(0, width, n)
			for i := range b {
				undecoded(t, b[:i], width, api.ErrShort)
			}
		}
		for digits := range 10 {
			undecoded(t, slices.Concat([]byte{255}, fill(128, digits)), width, api.ErrShort)
			undecoded(t, slices.Concat([]byte{255}, fill(255, min(digits, 8))), width, api.ErrShort)
		}
	}
}

// TestDecodeSize: P13.2, a tenth digit, whatever it is, and however many stand behind it.
func TestDecodeSize(t *testing.T) {
	for width := 1; width <= 8; width++ {
		for _, digits := range [][]byte{fill(128, 9), slices.Concat(fill(255, 7), []byte{128, 191}), slices.Concat(fill(128, 8), []byte{191})} {
			b := slices.Concat([]byte{255}, digits)
			undecoded(t, b, width, api.ErrShort)
			for _, tenth := range []byte{0, 1, 127, 128, 255} {
				undecoded(t, append(bytes.Clone(b), tenth), width, api.ErrSize)
				undecoded(t, append(bytes.Clone(b), tenth, 0), width, api.ErrSize)
				undecoded(t, append(bytes.Clone(b), tenth, 255), width, api.ErrSize)
			}
		}
		undecoded(t, slices.Concat([]byte{255}, fill(128, 300), []byte{0}), width, api.ErrSize)
	}
}

// TestDecodeRange: P13.2, the numbers around MaxVar in every width, and those that would go round.
func TestDecodeRange(t *testing.T) {
	for width := 1; width <= 8; width++ {
		for d := -300; d <= 300; d++ {
			n := api.MaxVar + d
			b := plain(0, width, big.NewInt(int64(n)))
			if d <= 0 {
				decoded(t, b, width, n, len(b))
				continue
			}
			undecoded(t, b, width, api.ErrRange)
		}
		for ninth := 64; ninth < 128; ninth++ {
			undecoded(t, slices.Concat([]byte{255}, fill(128, 8), []byte{byte(ninth)}), width, api.ErrRange)
			undecoded(t, slices.Concat([]byte{255}, fill(255, 8), []byte{byte(ninth)}), width, api.ErrRange)
		}
	}
}

// TestDecodeOrder: P13.2, digit by digit: what is wrong with the ninth one is told, not what is wrong behind it.
func TestDecodeOrder(t *testing.T) {
	for width := 1; width <= 8; width++ {
		for _, ninth := range []byte{192, 200, 255} {
			b := slices.Concat([]byte{255}, fill(255, 8), []byte{ninth})
			undecoded(t, b, width, api.ErrRange)
			undecoded(t, append(b, 0), width, api.ErrRange)
			undecoded(t, append(b, 128, 128), width, api.ErrRange)
		}
	}
}

// texts that may be, at their bounds, with bytes that are no runes and with zeros.
func texts() []string {
	return []string{
		"", "a", "abc", "\x00", "\xff\xfe", "a\x00b", "é", ":authority",
		strings.Repeat("x", 30), strings.Repeat("x", 31), strings.Repeat("x", 32),
		strings.Repeat("\x80", api.MaxData-1), strings.Repeat("z", api.MaxData),
	}
}

// TestText: P13.3 and P13.4, texts behind their lengths, in every width, read again with other bytes behind them.
func TestText(t *testing.T) {
	for _, c := range []struct {
		first byte
		width int
		s     string
		want  []byte
	}{
		{64, 5, "abc", []byte{67, 'a', 'b', 'c'}},
		{64, 5, "", []byte{64}},
		{0, 7, "", []byte{0}},
		{32, 3, "server", []byte{38, 's', 'e', 'r', 'v', 'e', 'r'}},
		{32, 3, "cookies", []byte{39, 0, 'c', 'o', 'o', 'k', 'i', 'e', 's'}},
		{0, 1, "", []byte{0}},
		{0, 1, "q", []byte{1, 0, 'q'}},
		{128, 7, strings.Repeat("z", 120), append([]byte{248}, strings.Repeat("z", 120)...)},
		{0, 1, strings.Repeat("z", 120), append([]byte{1, 119}, strings.Repeat("z", 120)...)},
	} {
		if b, e := Text(c.first, c.width, c.s); !bytes.Equal(b, c.want) || e != api.OK {
			t.Errorf("Text(%d, %d, %q) = %v, %d, want %v, 0", c.first, c.width, c.s, b, e, c.want)
		}
	}
	for width := 1; width <= 8; width++ {
		for _, first := range []int{0, 255 >> width << width} {
			for _, s := range texts() {
				b, e := Text(byte(first), width, s)
				want := append(plain(byte(first), width, big.NewInt(int64(len(s)))), s...)
				if !bytes.Equal(b, want) || e != api.OK {
					t.Errorf("Text(%d, %d, %q) = %v, %d, want %v, 0", first, width, s, b, e, want)
				}
				readAgain(t, want, width, s)
			}
		}
	}
}

// readAgain: Read answers the text that the bytes are, whatever stands behind them, and no part of it, if they are cut.
func readAgain(t *testing.T, b []byte, width int, want string) {
	t.Helper()
	for _, behind := range [][]byte{nil, {0}, {255, 255}, fill('x', 200)} {
		if s, k, e := Read(slices.Concat(b, behind), width); s != want || k != len(b) || e != api.OK {
			t.Errorf("Read(%v and %v, %d) = %q, %d, %d, want %q, %d, 0", b, behind, width, s, k, e, want, len(b))
		}
	}
	for i := range b {
		unread(t, b[:i], width, api.ErrShort)
	}
}

// TestTextRefuses: P13.3, texts too long ahead of all, then what Encode refuses.
func TestTextRefuses(t *testing.T) {
	refused := func(first byte, width int, s string, want api.Errno) {
		t.Helper()
		if b, e := Text(first, width, s); len(b) != 0 || e != want {
			t.Errorf("Text(%d, %d, %q) = %v, %d, want none, %d", first, width, s, b, e, want)
		}
	}
	for _, width := range append([]int{1, 5, 7, 8}, noWidths...) {
		for _, length := range []int{api.MaxData + 1, 127, 128, 300, 70000} {
			refused(0, width, strings.Repeat("x", length), api.ErrSize)
			refused(255, width, strings.Repeat("x", length), api.ErrSize)
		}
	}
	for _, s := range texts() {
		for _, width := range noWidths {
			refused(0, width, s, api.ErrRange)
			refused(255, width, s, api.ErrRange)
		}
		for width := 1; width <= 8; width++ {
			for bit := range width {
				refused(1<<bit, width, s, api.ErrForm)
			}
			refused(255, width, s, api.ErrForm)
		}
	}
}

// TestRead: P13.4, texts whose lengths have more digits than the fewest, or other bits beside them.
func TestRead(t *testing.T) {
	for _, c := range []struct {
		b     []byte
		width int
		s     string
		used  int
	}{
		{[]byte{67, 'a', 'b', 'c', 9}, 5, "abc", 4},
		{[]byte{227, 'a', 'b', 'c'}, 5, "abc", 4},
		{[]byte{64}, 5, "", 1},
		{[]byte{64, 'a'}, 5, "", 1},
		{[]byte{1, 128, 0, 'a', 'b'}, 1, "a", 4},
		{slices.Concat([]byte{1, 129}, fill(128, 7), []byte{0, 'a', 'b', 'c'}), 1, "ab", 12},
	} {
		if s, k, e := Read(c.b, c.width); s != c.s || k != c.used || e != api.OK {
			t.Errorf("Read(%v, %d) = %q, %d, %d, want %q, %d, 0", c.b, c.width, s, k, e, c.s, c.used)
		}
	}
}

// TestReadRefuses: P13.4, lengths above MaxData, ahead of bytes that are not there.
func TestReadRefuses(t *testing.T) {
	for width := 1; width <= 8; width++ {
		for _, n := range []int{api.MaxData + 1, api.MaxData + 2, 255, 256, 1 << 31, 1 << 32, api.MaxVar - 1, api.MaxVar} {
			b, _ := Encode(0, width, n)
			for _, behind := range []int{0, 1, api.MaxData, api.MaxData + 1, 300} {
				unread(t, slices.Concat(b, fill('x', behind)), width, api.ErrSize)
			}
		}
		b, _ := Encode(0, width, api.MaxData)
		for _, behind := range []int{0, 1, api.MaxData - 1} {
			unread(t, slices.Concat(b, fill('x', behind)), width, api.ErrShort)
		}
	}
	unread(t, []byte{67, 'a'}, 5, api.ErrShort)
	unread(t, []byte{67, 'a', 'b', 'c', 'd'}[:3], 5, api.ErrShort)
}

// model of Decode, in numbers that know no bounds (P13.2).
func model(b []byte, width int) (int, int, api.Errno) {
	if len(b) == 0 {
		return 0, 0, api.ErrShort
	}
	top := 1<<width - 1
	n := big.NewInt(int64(int(b[0]) % (top + 1)))
	if n.Cmp(big.NewInt(int64(top))) < 0 {
		return int(n.Int64()), 1, api.OK
	}
	times := big.NewInt(1)
	for i := 1; i < len(b); i++ {
		if i == 10 {
			return 0, 0, api.ErrSize
		}
		n.Add(n, new(big.Int).Mul(times, big.NewInt(int64(b[i]%128))))
		times.Mul(times, big.NewInt(128))
		if n.Cmp(big.NewInt(1<<62)) >= 0 {
			return 0, 0, api.ErrRange
		}
		if b[i] < 128 {
			return int(n.Int64()), i + 1, api.OK
		}
	}
	return 0, 0, api.ErrShort
}

// TestChance: P13.2 and P13.4, bytes by chance, many of which have great digits, and all bytes of length 1 and 2.
func TestChance(t *testing.T) {
	check := func(b []byte, width int) {
		t.Helper()
		kept := bytes.Clone(b)
		n, used, want := model(b, width)
		if want != api.OK {
			undecoded(t, b, width, want)
			return
		}
		decoded(t, b, width, n, used)
		switch {
		case n > api.MaxData:
			unread(t, b, width, api.ErrSize)
		case n > len(b)-used:
			unread(t, b, width, api.ErrShort)
		default:
			if s, k, e := Read(b, width); s != string(b[used:used+n]) || k != used+n || e != api.OK {
				t.Errorf("Read(%v, %d) = %q, %d, %d", b, width, s, k, e)
			}
		}
		if !bytes.Equal(b, kept) {
			t.Errorf("%v was changed to %v", kept, b)
		}
	}
	for width := 1; width <= 8; width++ {
		for word := range 1 << 16 {
			check([]byte{byte(word >> 8), byte(word)}, width)
		}
	}
	dice := rand.New(rand.NewPCG(13, 2))
	for range 200000 {
		b := make([]byte, dice.IntN(14))
		for i := range b {
			b[i] = byte(dice.IntN(256))
			if dice.IntN(8) > 0 {
				b[i] |= 128
			}
		}
		if len(b) > 0 && dice.IntN(4) > 0 {
			b[0] = 255
		}
		check(b, 1+dice.IntN(8))
	}
}

// TestMemory: what one call answers is not touched by what is done to another's answer, nor to what was handed in.
func TestMemory(t *testing.T) {
	for _, n := range []int{0, 1, 30, 31, 1337, 1 << 40, api.MaxVar} {
		first, _ := Encode(64, 5, n)
		second, _ := Encode(64, 5, n)
		spoil(first)
		if !bytes.Equal(second, plain(64, 5, big.NewInt(int64(n)))) {
			t.Errorf("Encode(64, 5, %d): two answers share memory", n)
		}
	}
	for _, s := range texts() {
		first, _ := Text(64, 5, s)
		second, _ := Text(64, 5, s)
		kept := bytes.Clone(second)
		spoil(first)
		if !bytes.Equal(second, kept) {
			t.Errorf("Text(64, 5, %q): two answers share memory", s)
		}
		got, _, _ := Read(second, 5)
		spoil(second)
		if got != s {
			t.Errorf("Read: %q shares memory with what was handed in", s)
		}
	}
}

// spoil bytes, and their spare room.
func spoil(b []byte) {
	for i := range b[:cap(b)] {
		b[:cap(b)][i] ^= 255
	}
}
