package tally

import (
	"math"
	"math/big"
	"math/rand/v2"
	"testing"

	"spillway/api"
)

const most = api.MaxTime

// third is the greatest number of which thrice is at most MaxTime.
const third = most / 3

// goodTallies are tallies that may be, at all their bounds.
func goodTallies() []api.Tally {
	out := []api.Tally{
		{},
		{Got: 1},
		{Got: 1, Sent: 1},
		{Got: 1, Sent: 2},
		{Got: 1, Sent: 3},
		{Got: 2, Sent: 6},
		{Got: 10, Sent: 29},
		{Got: 10, Sent: 30},
		{Got: api.MaxPacket, Sent: 3 * api.MaxPacket},
		{Got: third, Sent: 3*third - 1},
		{Got: third, Sent: 3 * third},
		{Got: third + 1, Sent: most - 1},
		{Got: third + 1, Sent: most},
		{Got: most - 1},
		{Got: most},
		{Got: most, Sent: 1},
		{Got: most, Sent: most - 1},
		{Got: most, Sent: most},
		// More than thrice was sent, to somebody known.
		{Known: true, Sent: 1},
		{Known: true, Got: 1, Sent: 4},
		{Known: true, Got: 10, Sent: 31},
		{Known: true, Got: third, Sent: 3*third + 1},
		{Known: true, Got: third, Sent: most},
		{Known: true, Sent: most - 1},
		{Known: true, Sent: most},
	}
	for _, t := range out {
		t.Known = true
		out = append(out, t)
	}
	return out
}

// badTallies are tallies that may not be, whose Known is as it is told, or either way.
func badTallies() []api.Tally {
	out := []api.Tally{
		// Above thrice.
		{Sent: 1},
		{Sent: most},
		{Got: 1, Sent: 4},
		{Got: 10, Sent: 31},
		{Got: 10, Sent: most},
		{Got: third, Sent: 3*third + 1},
		{Got: third, Sent: most},
	}
	for _, known := range []bool{false, true} {
		for _, n := range outside(most) {
			out = append(out,
				api.Tally{Known: known, Got: n},
				api.Tally{Known: known, Got: n, Sent: 1},
				api.Tally{Known: known, Got: n, Sent: most},
				api.Tally{Known: known, Sent: n},
				api.Tally{Known: known, Got: 1, Sent: n},
				api.Tally{Known: known, Got: most, Sent: n})
			for _, k := range outside(most) {
				out = append(out, api.Tally{Known: known, Got: n, Sent: k})
			}
		}
		// Thrice of these goes round, to where Sent would be below.
		for _, n := range []int{math.MinInt / 3, math.MinInt/3 - 1, math.MinInt/3*2 - 3, math.MaxInt/3 + 1} {
			out = append(out, api.Tally{Known: known, Got: n}, api.Tally{Known: known, Got: n, Sent: 1})
		}
	}
	return out
}

// outside are numbers that are not from 0 to a top.
func outside(top int) []int {
	return []int{math.MinInt, math.MinInt + 1, -api.MaxVar, -top - 1, -top, -2, -1, top + 1, top + 2, 2 * top, 3 * top, api.MaxVar, math.MaxInt - 1, math.MaxInt}
}

// inside are numbers from 0 to MaxPacket, at and beside all bounds.
func inside() []int {
	return []int{0, 1, 2, 3, 4, 5, 10, api.MaxPacket / 3, api.MaxPacket - 1, api.MaxPacket}
}

// calls that take a tally and a number; Know does not look at it.
var calls = []struct {
	name string
	call func(t api.Tally, n int) (api.Tally, api.Errno)
}{
	{"Got", Got},
	{"Send", Send},
	{"Know", func(t api.Tally, _ int) (api.Tally, api.Errno) { return Know(t) }},
}

// tallyCase is a tally, a number, and what is answered.
type tallyCase struct {
	tally api.Tally
	n     int
	want  api.Tally
	e     api.Errno
}

func checkCases(t *testing.T, name string, call func(api.Tally, int) (api.Tally, api.Errno), l []tallyCase) {
	t.Helper()
	for _, c := range l {
		if got, e := call(c.tally, c.n); got != c.want || e != c.e {
			t.Errorf("%s(%v, %d) = %v, %d, want %v, %d", name, c.tally, c.n, got, e, c.want, c.e)
		}
	}
}

// TestCheck: P17.1, tallies that may be, and such that may not.
func TestCheck(t *testing.T) {
	for _, c := range goodTallies() {
		if e := Check(c); e != api.OK {
			t.Errorf("Check(%v) = %d, want OK", c, e)
		}
	}
	for _, c := range badTallies() {
		if e := Check(c); e != api.ErrState {
			t.Errorf("Check(%v) = %d, want ErrState", c, e)
		}
	}
}

// TestGot: P17.2, what came is counted, up to MaxTime, whoever it is.
func TestGot(t *testing.T) {
	none := api.Tally{}
	checkCases(t, "Got", Got, []tallyCase{
		{none, 0, none, api.OK},
		{none, 1, api.Tally{Got: 1}, api.OK},
		{none, 10, api.Tally{Got: 10}, api.OK},
		{none, api.MaxPacket - 1, api.Tally{Got: 399}, api.OK},
		{none, api.MaxPacket, api.Tally{Got: 400}, api.OK},
		{none, api.MaxPacket + 1, none, api.ErrRange},
		{none, -1, none, api.ErrRange},
		{api.Tally{Got: 5}, 7, api.Tally{Got: 12}, api.OK},
		{api.Tally{Got: 5}, -1, none, api.ErrRange},
		{api.Tally{Got: 5}, -5, none, api.ErrRange},
		{api.Tally{Got: 5, Sent: 15}, 7, api.Tally{Got: 12, Sent: 15}, api.OK},
		{api.Tally{Got: 5, Sent: 15}, 0, api.Tally{Got: 5, Sent: 15}, api.OK},
		{api.Tally{Known: true}, 7, api.Tally{Known: true, Got: 7}, api.OK},
		{api.Tally{Known: true, Got: 5, Sent: 99}, 7, api.Tally{Known: true, Got: 12, Sent: 99}, api.OK},
		{api.Tally{Known: true, Got: 5, Sent: 99}, 401, none, api.ErrRange},
		{api.Tally{Got: most - 400}, 400, api.Tally{Got: most}, api.OK},
		{api.Tally{Got: most - 399}, 400, none, api.ErrFull},
		{api.Tally{Got: most - 1}, 1, api.Tally{Got: most}, api.OK},
		{api.Tally{Got: most - 1}, 2, none, api.ErrFull},
		{api.Tally{Got: most}, 0, api.Tally{Got: most}, api.OK},
		{api.Tally{Got: most}, 1, none, api.ErrFull},
		{api.Tally{Got: most, Sent: most}, 1, none, api.ErrFull},
		{api.Tally{Known: true, Got: most}, 0, api.Tally{Known: true, Got: most}, api.OK},
		{api.Tally{Known: true, Got: most}, 1, none, api.ErrFull},
		{api.Tally{Known: true, Got: most, Sent: 4}, 400, none, api.ErrFull},
		// Too many for a packet is told ahead of what has no room.
		{api.Tally{Got: most}, 401, none, api.ErrRange},
		{api.Tally{Got: most}, math.MaxInt, none, api.ErrRange},
		{api.Tally{Got: most}, -1, none, api.ErrRange},
	})
}

// TestSend: P17.3, up to thrice of what came to somebody unknown, and up to MaxTime to anybody.
func TestSend(t *testing.T) {
	none := api.Tally{}
	checkCases(t, "Send", Send, []tallyCase{
		{none, 0, none, api.OK},
		{none, 1, none, api.ErrAmp},
		{none, api.MaxPacket, none, api.ErrAmp},
		{none, api.MaxPacket + 1, none, api.ErrRange},
		{none, -1, none, api.ErrRange},
		{api.Tally{Got: 1}, 2, api.Tally{Got: 1, Sent: 2}, api.OK},
		{api.Tally{Got: 1}, 3, api.Tally{Got: 1, Sent: 3}, api.OK},
		{api.Tally{Got: 1}, 4, none, api.ErrAmp},
		{api.Tally{Got: 10, Sent: 12}, 17, api.Tally{Got: 10, Sent: 29}, api.OK},
		{api.Tally{Got: 10, Sent: 12}, 18, api.Tally{Got: 10, Sent: 30}, api.OK},
		{api.Tally{Got: 10, Sent: 12}, 19, none, api.ErrAmp},
		{api.Tally{Got: 10, Sent: 12}, -1, none, api.ErrRange},
		{api.Tally{Got: 10, Sent: 12}, -12, none, api.ErrRange},
		{api.Tally{Got: 10, Sent: 30}, 0, api.Tally{Got: 10, Sent: 30}, api.OK},
		{api.Tally{Got: 10, Sent: 30}, 1, none, api.ErrAmp},
		{api.Tally{Got: 133}, 399, api.Tally{Got: 133, Sent: 399}, api.OK},
		{api.Tally{Got: 133}, 400, none, api.ErrAmp},
		{api.Tally{Got: 134}, 400, api.Tally{Got: 134, Sent: 400}, api.OK},
		{api.Tally{Got: 134}, 401, none, api.ErrRange},
		// Somebody known is sent as much as is liked.
		{api.Tally{Known: true}, 0, api.Tally{Known: true}, api.OK},
		{api.Tally{Known: true}, 1, api.Tally{Known: true, Sent: 1}, api.OK},
		{api.Tally{Known: true}, 400, api.Tally{Known: true, Sent: 400}, api.OK},
		{api.Tally{Known: true}, 401, none, api.ErrRange},
		{api.Tally{Known: true}, -1, none, api.ErrRange},
		{api.Tally{Known: true, Got: 10, Sent: 30}, 1, api.Tally{Known: true, Got: 10, Sent: 31}, api.OK},
		{api.Tally{Known: true, Got: 10, Sent: 99}, 3, api.Tally{Known: true, Got: 10, Sent: 102}, api.OK},
		// Up to MaxTime.
		{api.Tally{Known: true, Sent: most - 400}, 400, api.Tally{Known: true, Sent: most}, api.OK},
		{api.Tally{Known: true, Sent: most - 399}, 400, none, api.ErrFull},
		{api.Tally{Known: true, Sent: most}, 0, api.Tally{Known: true, Sent: most}, api.OK},
		{api.Tally{Known: true, Sent: most}, 1, none, api.ErrFull},
		{api.Tally{Got: most, Sent: most - 1}, 1, api.Tally{Got: most, Sent: most}, api.OK},
		{api.Tally{Got: most, Sent: most - 1}, 2, none, api.ErrFull},
		{api.Tally{Got: most, Sent: most}, 0, api.Tally{Got: most, Sent: most}, api.OK},
		{api.Tally{Got: most, Sent: most}, 1, none, api.ErrFull},
		{api.Tally{Got: third + 1, Sent: most - 1}, 1, api.Tally{Got: third + 1, Sent: most}, api.OK},
		// What has no room is told ahead of what is above thrice, and too many for a packet ahead of both.
		{api.Tally{Got: third, Sent: 3 * third}, most - 3*third, none, api.ErrAmp},
		{api.Tally{Got: third, Sent: 3 * third}, most - 3*third + 1, none, api.ErrFull},
		{api.Tally{Got: third, Sent: 3 * third}, 400, none, api.ErrFull},
		{api.Tally{Got: third, Sent: 3 * third}, 401, none, api.ErrRange},
		{api.Tally{Got: third - 200, Sent: 3*third - 600}, 400, none, api.ErrAmp},
		{api.Tally{Got: most, Sent: most}, 401, none, api.ErrRange},
		{api.Tally{Got: most, Sent: most}, math.MaxInt, none, api.ErrRange},
		{api.Tally{Got: most, Sent: most}, math.MinInt, none, api.ErrRange},
	})
}

// TestKnow: P17.4, Known is set, and stays; nothing else changes.
func TestKnow(t *testing.T) {
	for _, c := range goodTallies() {
		want := api.Tally{Known: true, Got: c.Got, Sent: c.Sent}
		if got, e := Know(c); got != want || e != api.OK {
			t.Errorf("Know(%v) = %v, %d, want %v, OK", c, got, e, want)
		}
	}
}

// TestState: P17.2 to P17.4, what Check refuses is told ahead of all else.
func TestState(t *testing.T) {
	numbers := append(inside(), outside(api.MaxPacket)...)
	for _, c := range calls {
		for _, bad := range badTallies() {
			for _, n := range numbers {
				if got, e := c.call(bad, n); got != (api.Tally{}) || e != api.ErrState {
					t.Errorf("%s(%v, %d) = %v, %d, want nothing, ErrState", c.name, bad, n, got, e)
				}
			}
		}
	}
}

// TestRange: P17.2 and P17.3, of a tally that may be, a number that no packet has is refused.
func TestRange(t *testing.T) {
	for _, c := range calls[:2] {
		for _, good := range goodTallies() {
			for _, n := range outside(api.MaxPacket) {
				if got, e := c.call(good, n); got != (api.Tally{}) || e != api.ErrRange {
					t.Errorf("%s(%v, %d) = %v, %d, want nothing, ErrRange", c.name, good, n, got, e)
				}
			}
		}
	}
}

// TestSmall: P17.1 to P17.4, every small tally, and every number of bytes around it, and those of a packet.
func TestSmall(t *testing.T) {
	const top = 12
	for got := range top {
		for sent := range 4 * top {
			for _, known := range []bool{false, true} {
				c := api.Tally{Known: known, Got: got, Sent: sent}
				may := known || sent <= got+got+got
				if e := Check(c); (e == api.OK) != may || !may && e != api.ErrState {
					t.Fatalf("Check(%v) = %d", c, e)
				}
				if may {
					checkSmall(t, c)
				}
			}
		}
	}
}

func checkSmall(t *testing.T, c api.Tally) {
	t.Helper()
	for n := -5; n <= api.MaxPacket+5; n++ {
		wantGot := tallyCase{c, n, api.Tally{Known: c.Known, Got: c.Got + n, Sent: c.Sent}, api.OK}
		wantSend := tallyCase{c, n, api.Tally{Known: c.Known, Got: c.Got, Sent: c.Sent + n}, api.OK}
		switch {
		case n < 0 || n > 400:
			wantGot.want, wantGot.e = api.Tally{}, api.ErrRange
			wantSend.want, wantSend.e = api.Tally{}, api.ErrRange
		case !c.Known && c.Sent+n > c.Got+c.Got+c.Got:
			wantSend.want, wantSend.e = api.Tally{}, api.ErrAmp
		}
		checkCases(t, "Got", Got, []tallyCase{wantGot})
		checkCases(t, "Send", Send, []tallyCase{wantSend})
	}
}

// TestBounds: P17.1 to P17.4, at all bounds, what comes out of a call may be, and with an error it is nothing.
func TestBounds(t *testing.T) {
	for _, c := range calls {
		for _, good := range goodTallies() {
			for _, n := range inside() {
				got, e := c.call(good, n)
				if e == api.OK && Check(got) != api.OK || e != api.OK && got != (api.Tally{}) {
					t.Errorf("%s(%v, %d) = %v, %d", c.name, good, n, got, e)
				}
			}
		}
	}
}

// TestThrice: P17.2 to P17.4, what may be sent to somebody unknown grows thrice as fast as what comes, and is bounded no more when he is known.
func TestThrice(t *testing.T) {
	c, sent := api.Tally{}, 0
	for n := range 130 {
		var e api.Errno
		if c, e = Got(c, n); e != api.OK {
			t.Fatalf("Got of %d: %d", n, e)
		}
		if _, e = Send(c, 3*n+1); e != api.ErrAmp {
			t.Fatalf("Send(%v, %d) = %d, want ErrAmp", c, 3*n+1, e)
		}
		sent += 3 * n
		was := c
		if c, e = Send(c, 3*n); c != (api.Tally{Got: was.Got, Sent: sent}) || e != api.OK {
			t.Fatalf("Send(%v, %d) = %v, %d, want Sent %d, OK", was, 3*n, c, e, sent)
		}
	}
	known, e := Know(c)
	if e != api.OK {
		t.Fatalf("Know(%v) = %d", c, e)
	}
	for range 50 {
		sent += 400
		was := known
		if known, e = Send(known, 400); known != (api.Tally{Known: true, Got: c.Got, Sent: sent}) || e != api.OK {
			t.Fatalf("Send(%v, 400) = %v, %d, want Sent %d, OK", was, known, e, sent)
		}
	}
	// He is known from then on: what comes does not take that back.
	if got, e := Got(known, 1); got != (api.Tally{Known: true, Got: c.Got + 1, Sent: sent}) || e != api.OK {
		t.Errorf("Got(%v, 1) = %v, %d", known, got, e)
	}
}

// model of a call, in numbers that know no bounds.
func model(name string, c api.Tally, n int) (api.Tally, api.Errno) {
	number := func(n int) *big.Int { return big.NewInt(int64(n)) }
	top := new(big.Int).Lsh(number(1), 40)
	above := func(sent, got *big.Int) bool {
		return !c.Known && sent.Cmp(new(big.Int).Mul(got, number(3))) > 0
	}
	got, sent := number(c.Got), number(c.Sent)
	switch {
	case got.Sign() < 0 || sent.Sign() < 0 || got.Cmp(top) > 0 || sent.Cmp(top) > 0 || above(sent, got):
		return api.Tally{}, api.ErrState
	case name == "Know":
		return api.Tally{Known: true, Got: c.Got, Sent: c.Sent}, api.OK
	case number(n).Sign() < 0 || number(n).Cmp(number(400)) > 0:
		return api.Tally{}, api.ErrRange
	case name == "Got":
		got.Add(got, number(n))
	default:
		sent.Add(sent, number(n))
	}
	switch {
	case got.Cmp(top) > 0 || sent.Cmp(top) > 0:
		return api.Tally{}, api.ErrFull
	case above(sent, got):
		return api.Tally{}, api.ErrAmp
	}
	return api.Tally{Known: c.Known, Got: int(got.Int64()), Sent: int(sent.Int64())}, api.OK
}

// draw a number: small ones, such around MaxTime and a third of it, and any that there are.
func draw(r *rand.Rand) int {
	switch r.IntN(8) {
	case 0:
		return most + r.IntN(5) - 3
	case 1:
		return third + r.IntN(5) - 2
	case 2:
		return r.IntN(most + 1)
	case 3:
		return int(r.Uint64())
	case 4:
		return -r.IntN(3)
	case 5:
		return most - r.IntN(500)
	}
	return r.IntN(500)
}

// TestModel: P17.1 to P17.4, tallies by chance, and steps from one to the next, side by side with a model.
func TestModel(t *testing.T) {
	r := rand.New(rand.NewPCG(17, 17))
	seen := map[api.Errno]int{}
	for range 20000 {
		c := api.Tally{Known: r.IntN(2) == 0, Got: draw(r), Sent: draw(r)}
		if r.IntN(3) == 0 && c.Got > 0 && c.Got <= most {
			c.Sent = 3*c.Got - r.IntN(3)
		}
		for range 10 {
			n := draw(r)
			call := calls[r.IntN(len(calls))]
			want, wantE := model(call.name, c, n)
			got, e := call.call(c, n)
			if got != want || e != wantE {
				t.Fatalf("%s(%v, %d) = %v, %d, want %v, %d", call.name, c, n, got, e, want, wantE)
			}
			if (Check(c) == api.ErrState) != (e == api.ErrState) {
				t.Fatalf("Check(%v) = %d, but %s(%v, %d) = %d", c, Check(c), call.name, c, n, e)
			}
			seen[e]++
			if e == api.OK {
				c = got
			}
		}
	}
	for _, e := range []api.Errno{api.OK, api.ErrState, api.ErrRange, api.ErrFull, api.ErrAmp} {
		if seen[e] < 100 {
			t.Errorf("error %d was seen only %d times", e, seen[e])
		}
	}
}

// TestSame: P17.1 to P17.4, the same is answered for the same, and a tally that was handed in lies as it lay.
func TestSame(t *testing.T) {
	for _, c := range calls {
		for _, good := range goodTallies() {
			was := good
			a, e := c.call(good, 7)
			b, f := c.call(good, 7)
			if a != b || e != f || good != was {
				t.Errorf("%s(%v, 7) = %v, %d, then %v, %d; it lies as %v", c.name, was, a, e, b, f, good)
			}
		}
	}
}
