package pace

import (
	"math"
	"math/big"
	"math/rand/v2"
	"testing"

	"spillway/api"
)

// outside are numbers below 0, or above MaxTime.
var outside = []int{math.MinInt, -api.MaxTime, -2, -1, api.MaxTime + 1, 2 * api.MaxTime, api.MaxVar, math.MaxInt}

// goodPaces are paces that may be, at all their bounds.
func goodPaces() []api.Pace {
	var out []api.Pace
	for _, window := range []int{api.Least, api.Least + 1, 2 * api.Least, api.MaxTime - 1, api.MaxTime} {
		for _, thresh := range []int{0, 1, api.Least, 300, api.MaxTime} {
			for _, flying := range []int{0, 1, api.Least, 401, api.MaxTime} {
				for _, since := range []int{-1, 0, 1, api.MaxTime - 1, api.MaxTime} {
					out = append(out, api.Pace{Window: window, Thresh: thresh, Flying: flying, Since: since})
				}
			}
		}
	}
	return out
}

// badPaces are paces that may not be, each by one field, or by several.
func badPaces() []api.Pace {
	out := []api.Pace{
		{},
		{Since: -1},
		{Window: api.Least - 1},
		{Window: api.Least - 1, Since: -1},
		{Window: 1, Thresh: 1, Flying: 1, Since: 1},
		{Window: api.Least, Since: -2},
		{Window: api.Least, Thresh: -1, Flying: -1, Since: -2},
		{Window: api.MaxTime + 1, Thresh: api.MaxTime + 1, Flying: api.MaxTime + 1, Since: api.MaxTime + 1},
	}
	for _, n := range outside {
		out = append(out,
			api.Pace{Window: n, Thresh: 250, Flying: 100, Since: 5},
			api.Pace{Window: 500, Thresh: n, Flying: 100, Since: 5},
			api.Pace{Window: 500, Thresh: 250, Flying: n, Since: 5})
		if n != -1 {
			out = append(out, api.Pace{Window: 500, Thresh: 250, Flying: 100, Since: n})
		}
	}
	return out
}

// TestCheck: a pace that may be, and others (P12.1).
func TestCheck(t *testing.T) {
	for _, p := range goodPaces() {
		if e := Check(p); e != api.OK {
			t.Errorf("Check(%v) = %d, want OK", p, e)
		}
	}
	for _, p := range badPaces() {
		if e := Check(p); e != api.ErrState {
			t.Errorf("Check(%v) = %d, want ErrState", p, e)
		}
	}
}

// TestBegin: the first pace, which is one that may be (P12.2).
func TestBegin(t *testing.T) {
	want := api.Pace{Window: 400, Thresh: 0, Flying: 0, Since: -1}
	if p := Begin(); p != want {
		t.Errorf("Begin() = %v, want %v", p, want)
	}
	if e := Check(Begin()); e != api.OK {
		t.Errorf("Check(Begin()) = %d, want OK", e)
	}
}

// calls, each by a pace and three numbers, of which it takes the first ones, as many as it has.
var calls = []struct {
	name string
	has  int
	call func(p api.Pace, n [3]int) (api.Pace, bool, api.Errno)
}{
	{"Send", 1, func(p api.Pace, n [3]int) (api.Pace, bool, api.Errno) {
		return Send(p, n[0])
	}},
	{"Heard", 2, func(p api.Pace, n [3]int) (api.Pace, bool, api.Errno) {
		q, e := Heard(p, n[0], n[1])
		return q, false, e
	}},
	{"Lost", 3, func(p api.Pace, n [3]int) (api.Pace, bool, api.Errno) {
		q, e := Lost(p, n[0], n[1], n[2])
		return q, false, e
	}},
}

// refused: a call answers that error, and else nothing.
func refused(t *testing.T, name string, call func(api.Pace, [3]int) (api.Pace, bool, api.Errno), p api.Pace, n [3]int, want api.Errno) {
	t.Helper()
	q, ok, e := call(p, n)
	if q != (api.Pace{}) || ok || e != want {
		t.Errorf("%s(%v, %v) = %v, %v, %d, want nothing and %d", name, p, n, q, ok, e, want)
	}
}

// TestState: what Check refuses is refused by all, ahead of all (P12.1, P12.3, P12.4, P12.5).
func TestState(t *testing.T) {
	for _, c := range calls {
		for _, p := range badPaces() {
			for _, n := range [][3]int{{0, 0, 0}, {1, 6, 7}, {-1, 6, 7}, {1, -1, 7}, {1, 6, -1}, {api.MaxTime, 6, 7}, {math.MaxInt, math.MinInt, math.MaxInt}} {
				refused(t, c.name, c.call, p, n, api.ErrState)
			}
		}
	}
}

// TestRange: each number of each call is from 0 to MaxTime, and that is asked ahead of whether there are so many (P12.1, P12.3, P12.4, P12.5).
func TestRange(t *testing.T) {
	p := api.Pace{Window: 500, Thresh: 250, Flying: 100, Since: 5}
	for _, c := range calls {
		for _, bad := range outside {
			for i := range c.has {
				for _, n := range [][3]int{{0, 0, 0}, {1, 6, 7}, {101, 6, 7}, {api.MaxTime, api.MaxTime, api.MaxTime}, {bad, bad, bad}} {
					n[i] = bad
					refused(t, c.name, c.call, p, n, api.ErrRange)
				}
			}
		}
		full := api.Pace{Window: api.MaxTime, Flying: api.MaxTime, Since: -1}
		for _, n := range [][3]int{{0, 0, 0}, {1, 0, api.MaxTime}, {api.MaxTime, 0, 0}, {0, api.MaxTime, 0}, {api.MaxTime, api.MaxTime, api.MaxTime}} {
			if _, _, e := c.call(full, n); e != api.OK {
				t.Errorf("%s(%v, %v) = %d, want OK", c.name, full, n, e)
			}
		}
	}
}

// TestAck: nobody hears of more than there was on its way, nor is more lost (P12.4, P12.5).
func TestAck(t *testing.T) {
	for _, c := range calls[1:] {
		for _, flying := range []int{0, 1, 100, 400, 401, api.MaxTime - 1} {
			for _, since := range []int{-1, 4, 5, 6} {
				p := api.Pace{Window: 400, Flying: flying, Since: since}
				for _, n := range []int{flying + 1, min(flying+100, api.MaxTime), api.MaxTime} {
					refused(t, c.name, c.call, p, [3]int{n, 5, 9}, api.ErrAck)
				}
				if q, _, e := c.call(p, [3]int{flying, 5, 9}); e != api.OK || q.Flying != 0 {
					t.Errorf("%s(%v, %d, ..) = %v, %d, want none flying and OK", c.name, p, flying, q, e)
				}
			}
		}
	}
}

// TestSend: so many may be on their way as the window holds, not one more (P12.3).
func TestSend(t *testing.T) {
	for _, c := range []struct {
		window, flying, n int
		may               bool
	}{
		{400, 0, 0, true},
		{400, 0, 1, true},
		{400, 0, 399, true},
		{400, 0, 400, true},
		{400, 0, 401, false},
		{400, 0, api.MaxTime, false},
		{400, 399, 1, true},
		{400, 399, 2, false},
		{400, 400, 0, true},
		{400, 400, 1, false},
		{400, 401, 0, false},
		{400, api.MaxTime, 0, false},
		{400, api.MaxTime, api.MaxTime, false},
		{200, 150, 50, true},
		{200, 150, 51, false},
		{api.MaxTime, 0, api.MaxTime, true},
		{api.MaxTime, 1, api.MaxTime - 1, true},
		{api.MaxTime, 1, api.MaxTime, false},
		{api.MaxTime, api.MaxTime, 0, true},
		{api.MaxTime, api.MaxTime, 1, false},
		{api.MaxTime, api.MaxTime, api.MaxTime, false},
	} {
		for _, rest := range []api.Pace{{Since: -1}, {Thresh: 300, Since: 7}, {Thresh: api.MaxTime, Since: api.MaxTime}} {
			p := api.Pace{Window: c.window, Thresh: rest.Thresh, Flying: c.flying, Since: rest.Since}
			want := p
			if c.may {
				want.Flying = c.flying + c.n
			}
			if q, ok, e := Send(p, c.n); q != want || ok != c.may || e != api.OK {
				t.Errorf("Send(%v, %d) = %v, %v, %d, want %v, %v, OK", p, c.n, q, ok, e, want, c.may)
			}
		}
	}
}

// TestHeard: what is heard of is on its way no more, and the window grows, fast below the threshold, slow from there on (P12.4).
func TestHeard(t *testing.T) {
	const most = api.MaxTime
	for _, c := range []struct {
		name    string
		p       api.Pace
		n, sent int
		want    api.Pace
	}{
		{"no threshold", api.Pace{Window: 400, Flying: 100, Since: -1}, 60, 0, api.Pace{Window: 460, Flying: 40, Since: -1}},
		{"no threshold, all", api.Pace{Window: 400, Flying: 100, Since: -1}, 100, most, api.Pace{Window: 500, Since: -1}},
		{"no threshold, but halved", api.Pace{Window: 400, Flying: 100, Since: 4}, 60, 5, api.Pace{Window: 460, Flying: 40, Since: 4}},
		{"nothing", api.Pace{Window: 400, Flying: 100, Since: -1}, 0, 5, api.Pace{Window: 400, Flying: 100, Since: -1}},
		{"nothing of nothing", api.Pace{Window: 400, Since: -1}, 0, 0, api.Pace{Window: 400, Since: -1}},
		{"threshold one above", api.Pace{Window: 400, Thresh: 401, Flying: 100, Since: 4}, 60, 5, api.Pace{Window: 460, Thresh: 401, Flying: 40, Since: 4}},
		{"threshold far above", api.Pace{Window: 400, Thresh: most, Flying: 100, Since: 4}, 60, 5, api.Pace{Window: 460, Thresh: most, Flying: 40, Since: 4}},
		{"threshold alike", api.Pace{Window: 400, Thresh: 400, Flying: 100, Since: 4}, 60, 5, api.Pace{Window: 415, Thresh: 400, Flying: 40, Since: 4}},
		{"threshold one below", api.Pace{Window: 400, Thresh: 399, Flying: 100, Since: 4}, 60, 5, api.Pace{Window: 415, Thresh: 399, Flying: 40, Since: 4}},
		{"threshold of 1", api.Pace{Window: 400, Thresh: 1, Flying: 100, Since: 4}, 60, 5, api.Pace{Window: 415, Thresh: 1, Flying: 40, Since: 4}},
		{"slow, nothing", api.Pace{Window: 400, Thresh: 400, Flying: 100, Since: 4}, 0, 5, api.Pace{Window: 400, Thresh: 400, Flying: 100, Since: 4}},
		{"slow, cut to 0", api.Pace{Window: 400, Thresh: 400, Flying: 100, Since: 4}, 3, 5, api.Pace{Window: 400, Thresh: 400, Flying: 97, Since: 4}},
		{"slow, just 1", api.Pace{Window: 400, Thresh: 400, Flying: 100, Since: 4}, 4, 5, api.Pace{Window: 401, Thresh: 400, Flying: 96, Since: 4}},
		{"slow, cut to 1", api.Pace{Window: 400, Thresh: 400, Flying: 100, Since: 4}, 7, 5, api.Pace{Window: 401, Thresh: 400, Flying: 93, Since: 4}},
		{"slow, the least window", api.Pace{Window: 200, Thresh: 200, Flying: 100, Since: 4}, 99, 5, api.Pace{Window: 249, Thresh: 200, Flying: 1, Since: 4}},
		{"slow, more than the window", api.Pace{Window: 200, Thresh: 200, Flying: 1000, Since: 4}, 999, 5, api.Pace{Window: 699, Thresh: 200, Flying: 1, Since: 4}},
		{"slow, a great many", api.Pace{Window: 200, Thresh: 200, Flying: most, Since: 4}, most, 5, api.Pace{Window: 200 + most/2, Thresh: 200, Since: 4}},
		{"slow, a great window", api.Pace{Window: most - 200, Thresh: 200, Flying: most, Since: 4}, most, 5, api.Pace{Window: most - 100, Thresh: 200, Since: 4}},
		{"slow, to the most", api.Pace{Window: most - 100, Thresh: 200, Flying: most, Since: 4}, most, 5, api.Pace{Window: most, Thresh: 200, Since: 4}},
		{"slow, one beyond the most", api.Pace{Window: most - 99, Thresh: 200, Flying: most, Since: 4}, most, 5, api.Pace{Window: most, Thresh: 200, Since: 4}},
		{"slow, at the most", api.Pace{Window: most, Thresh: most, Flying: most, Since: 4}, most, 5, api.Pace{Window: most, Thresh: most, Since: 4}},
		{"fast, to the most", api.Pace{Window: most - 60, Flying: 100, Since: -1}, 60, 5, api.Pace{Window: most, Flying: 40, Since: -1}},
		{"fast, one beyond the most", api.Pace{Window: most - 60, Flying: 100, Since: -1}, 61, 5, api.Pace{Window: most, Flying: 39, Since: -1}},
		{"fast, far beyond the most", api.Pace{Window: most, Flying: most, Since: -1}, most, 5, api.Pace{Window: most, Since: -1}},
		{"fast, threshold at the most", api.Pace{Window: most - 1, Thresh: most, Flying: most, Since: 4}, most, 5, api.Pace{Window: most, Thresh: most, Since: 4}},
		{"sent when it was halved", api.Pace{Window: 400, Flying: 100, Since: 5}, 60, 5, api.Pace{Window: 400, Flying: 40, Since: 5}},
		{"sent ahead of it", api.Pace{Window: 400, Thresh: 300, Flying: 100, Since: 5}, 60, 4, api.Pace{Window: 400, Thresh: 300, Flying: 40, Since: 5}},
		{"halved at 0", api.Pace{Window: 400, Flying: 100, Since: 0}, 60, 0, api.Pace{Window: 400, Flying: 40, Since: 0}},
		{"sent at 1", api.Pace{Window: 400, Flying: 100, Since: 0}, 60, 1, api.Pace{Window: 460, Flying: 40, Since: 0}},
		{"halved at the end", api.Pace{Window: 400, Flying: 100, Since: most}, 60, most, api.Pace{Window: 400, Flying: 40, Since: most}},
		{"sent at the end", api.Pace{Window: 400, Flying: 100, Since: most - 1}, 60, most, api.Pace{Window: 460, Flying: 40, Since: most - 1}},
	} {
		if q, e := Heard(c.p, c.n, c.sent); q != c.want || e != api.OK {
			t.Errorf("%s: Heard(%v, %d, %d) = %v, %d, want %v, OK", c.name, c.p, c.n, c.sent, q, e, c.want)
		}
	}
}

// TestLost: what is lost is on its way no more, and the window is halved, once for what was sent till then (P12.5).
func TestLost(t *testing.T) {
	const most = api.MaxTime
	for _, c := range []struct {
		name         string
		p            api.Pace
		n, sent, now int
		want         api.Pace
	}{
		{"the first", api.Pace{Window: 500, Flying: 100, Since: -1}, 60, 4, 9, api.Pace{Window: 250, Thresh: 250, Flying: 40, Since: 9}},
		{"the first, at 0", api.Pace{Window: 500, Flying: 100, Since: -1}, 60, 0, 0, api.Pace{Window: 250, Thresh: 250, Flying: 40, Since: 0}},
		{"all", api.Pace{Window: 500, Flying: 100, Since: -1}, 100, 4, 9, api.Pace{Window: 250, Thresh: 250, Since: 9}},
		{"nothing", api.Pace{Window: 500, Flying: 100, Since: -1}, 0, 4, 9, api.Pace{Window: 250, Thresh: 250, Flying: 100, Since: 9}},
		{"nothing of nothing", api.Pace{Window: 500, Since: -1}, 0, 4, 9, api.Pace{Window: 250, Thresh: 250, Since: 9}},
		{"an odd window", api.Pace{Window: 501, Flying: 100, Since: 3}, 60, 4, 9, api.Pace{Window: 250, Thresh: 250, Flying: 40, Since: 9}},
		{"half is the least", api.Pace{Window: 400, Flying: 100, Since: 3}, 60, 4, 9, api.Pace{Window: 200, Thresh: 200, Flying: 40, Since: 9}},
		{"half is above the least", api.Pace{Window: 402, Flying: 100, Since: 3}, 60, 4, 9, api.Pace{Window: 201, Thresh: 201, Flying: 40, Since: 9}},
		{"half is below the least", api.Pace{Window: 398, Flying: 100, Since: 3}, 60, 4, 9, api.Pace{Window: 200, Thresh: 200, Flying: 40, Since: 9}},
		{"the least window", api.Pace{Window: 200, Flying: 100, Since: 3}, 60, 4, 9, api.Pace{Window: 200, Thresh: 200, Flying: 40, Since: 9}},
		{"the greatest window", api.Pace{Window: most, Flying: most, Since: 3}, most, 4, 9, api.Pace{Window: most / 2, Thresh: most / 2, Since: 9}},
		{"a threshold that falls", api.Pace{Window: 500, Thresh: 700, Flying: 100, Since: 3}, 60, 4, 9, api.Pace{Window: 250, Thresh: 250, Flying: 40, Since: 9}},
		{"a threshold that rises", api.Pace{Window: 500, Thresh: 200, Flying: 100, Since: 3}, 60, 4, 9, api.Pace{Window: 250, Thresh: 250, Flying: 40, Since: 9}},
		{"more flying than the window", api.Pace{Window: 500, Flying: 900, Since: 3}, 60, 4, 9, api.Pace{Window: 250, Thresh: 250, Flying: 840, Since: 9}},
		{"sent after now", api.Pace{Window: 500, Flying: 100, Since: 3}, 60, 9, 4, api.Pace{Window: 250, Thresh: 250, Flying: 40, Since: 9}},
		{"sent after now, which is early", api.Pace{Window: 500, Flying: 100, Since: 3}, 60, 4, 2, api.Pace{Window: 250, Thresh: 250, Flying: 40, Since: 4}},
		{"sent now", api.Pace{Window: 500, Flying: 100, Since: 3}, 60, 4, 4, api.Pace{Window: 250, Thresh: 250, Flying: 40, Since: 4}},
		{"at the end", api.Pace{Window: 500, Flying: 100, Since: most - 1}, 60, most, 0, api.Pace{Window: 250, Thresh: 250, Flying: 40, Since: most}},
		{"seen at the end", api.Pace{Window: 500, Flying: 100, Since: 3}, 60, 4, most, api.Pace{Window: 250, Thresh: 250, Flying: 40, Since: most}},
		{"sent when it was halved", api.Pace{Window: 500, Thresh: 300, Flying: 100, Since: 4}, 60, 4, 9, api.Pace{Window: 500, Thresh: 300, Flying: 40, Since: 4}},
		{"sent ahead of it", api.Pace{Window: 500, Flying: 100, Since: 5}, 60, 4, 9, api.Pace{Window: 500, Flying: 40, Since: 5}},
		{"halved at 0", api.Pace{Window: 500, Flying: 100, Since: 0}, 60, 0, 9, api.Pace{Window: 500, Flying: 40, Since: 0}},
		{"halved at the end", api.Pace{Window: 500, Flying: 100, Since: most}, 60, most, most, api.Pace{Window: 500, Flying: 40, Since: most}},
	} {
		if q, e := Lost(c.p, c.n, c.sent, c.now); q != c.want || e != api.OK {
			t.Errorf("%s: Lost(%v, %d, %d, %d) = %v, %d, want %v, OK", c.name, c.p, c.n, c.sent, c.now, q, e, c.want)
		}
	}
}

// TestBounds: at all bounds of paces and numbers, what comes out of a call is a pace that may be (P12.1, P12.3, P12.4, P12.5).
func TestBounds(t *testing.T) {
	edges := []int{0, 1, api.Least, 401, api.MaxTime - 1, api.MaxTime}
	for _, c := range calls {
		for _, p := range goodPaces() {
			for _, n := range edges {
				for _, sent := range edges {
					for _, now := range edges {
						q, _, e := c.call(p, [3]int{n, sent, now})
						if e == api.ErrAck && n > p.Flying && c.has > 1 {
							continue
						}
						if e != api.OK || Check(q) != api.OK {
							t.Fatalf("%s(%v, %d, %d, %d) = %v, %d, whose Check is %d", c.name, p, n, sent, now, q, e, Check(q))
						}
					}
				}
			}
		}
	}
}

// TestOnce: many that are lost together halve the window once, and only what was sent after that lets it grow, or halves it again (P12.2, P12.3, P12.4, P12.5).
func TestOnce(t *testing.T) {
	p := Begin()
	send := func(n int, may bool) {
		t.Helper()
		q, ok, e := Send(p, n)
		if ok != may || e != api.OK {
			t.Fatalf("Send(%v, %d) = %v, %d, want %v, OK", p, n, ok, e, may)
		}
		p = q
	}
	step := func(q api.Pace, e api.Errno, want api.Pace) {
		t.Helper()
		if q != want || e != api.OK {
			t.Fatalf("after %v: %v, %d, want %v, OK", p, q, e, want)
		}
		p = q
	}
	for range 4 {
		send(100, true)
	}
	send(1, false)
	q, e := Heard(p, 100, 0)
	step(q, e, api.Pace{Window: 500, Flying: 300, Since: -1})
	send(200, true)
	q, e = Lost(p, 100, 0, 8)
	step(q, e, api.Pace{Window: 250, Thresh: 250, Flying: 400, Since: 8})
	send(0, false)
	q, e = Lost(p, 100, 0, 8)
	step(q, e, api.Pace{Window: 250, Thresh: 250, Flying: 300, Since: 8})
	q, e = Lost(p, 100, 8, 16)
	step(q, e, api.Pace{Window: 250, Thresh: 250, Flying: 200, Since: 8})
	q, e = Heard(p, 150, 8)
	step(q, e, api.Pace{Window: 250, Thresh: 250, Flying: 50, Since: 8})
	send(200, true)
	q, e = Heard(p, 100, 9)
	step(q, e, api.Pace{Window: 290, Thresh: 250, Flying: 150, Since: 8})
	q, e = Lost(p, 100, 9, 17)
	step(q, e, api.Pace{Window: 200, Thresh: 200, Flying: 50, Since: 17})
}

// model of a pace, in numbers that know no bounds.
type model struct {
	window, thresh, flying, since *big.Int
}

func number(n int) *big.Int { return big.NewInt(int64(n)) }

func modelOf(p api.Pace) model {
	return model{number(p.Window), number(p.Thresh), number(p.Flying), number(p.Since)}
}

func (m model) pace() api.Pace {
	return api.Pace{Window: int(m.window.Int64()), Thresh: int(m.thresh.Int64()), Flying: int(m.flying.Int64()), Since: int(m.since.Int64())}
}

// send in the model (P12.3).
func (m *model) send(n int) bool {
	sum := new(big.Int).Add(m.flying, number(n))
	if sum.Cmp(m.window) > 0 {
		return false
	}
	m.flying = sum
	return true
}

// heard in the model (P12.4).
func (m *model) heard(n, sent int) bool {
	if m.flying.Cmp(number(n)) < 0 {
		return false
	}
	m.flying = new(big.Int).Sub(m.flying, number(n))
	if number(sent).Cmp(m.since) <= 0 {
		return true
	}
	more := number(n)
	if m.thresh.Sign() != 0 && m.thresh.Cmp(m.window) <= 0 {
		more.Mul(more, number(100)).Div(more, m.window)
	}
	m.window = more.Add(more, m.window)
	if m.window.Cmp(number(1<<40)) > 0 {
		m.window = number(1 << 40)
	}
	return true
}

// lost in the model (P12.5).
func (m *model) lost(n, sent, now int) bool {
	if m.flying.Cmp(number(n)) < 0 {
		return false
	}
	m.flying = new(big.Int).Sub(m.flying, number(n))
	if number(sent).Cmp(m.since) <= 0 {
		return true
	}
	m.since = number(now)
	if sent > now {
		m.since = number(sent)
	}
	m.window = new(big.Int).Div(m.window, number(2))
	if m.window.Cmp(number(200)) < 0 {
		m.window = number(200)
	}
	m.thresh = m.window
	return true
}

// draw a number from 0 to MaxTime: small ones, great ones, and some at the ends.
func draw(r *rand.Rand) int {
	switch r.IntN(8) {
	case 0:
		return 0
	case 1:
		return api.MaxTime - r.IntN(3)
	case 2:
		return r.IntN(api.MaxTime + 1)
	case 3:
		return r.IntN(1 << 20)
	}
	return r.IntN(500)
}

// TestModel: steps by chance, side by side with a model (P12.2 to P12.5).
func TestModel(t *testing.T) {
	r := rand.New(rand.NewPCG(12, 12))
	for range 2000 {
		p := Begin()
		if r.IntN(2) == 0 {
			p = api.Pace{Window: api.Least + r.IntN(1000), Thresh: draw(r), Flying: draw(r), Since: draw(r) - 1}
		}
		m := modelOf(p)
		for range 60 {
			was, n, sent, now := p, draw(r), draw(r), draw(r)
			if r.IntN(2) == 0 {
				sent = min(max(p.Since+r.IntN(3), 0), api.MaxTime)
			}
			if r.IntN(2) == 0 {
				n = r.IntN(p.Flying + 1)
			}
			i := r.IntN(len(calls))
			var done bool
			switch i {
			case 0:
				done = m.send(n)
			case 1:
				done = m.heard(n, sent)
			case 2:
				done = m.lost(n, sent, now)
			}
			q, ok, e := calls[i].call(p, [3]int{n, sent, now})
			want := api.OK
			if i > 0 && !done {
				want = api.ErrAck
			}
			if e != want || ok != (i == 0 && done) || e == api.OK && q != m.pace() {
				t.Fatalf("%s(%v, %d, %d, %d) = %v, %v, %d, want %v, %d", calls[i].name, was, n, sent, now, q, ok, e, m.pace(), want)
			}
			if e == api.OK {
				p = q
			}
		}
	}
}

// TestSame: the same is answered for the same, and a pace that was handed in lies as it lay (P12.3, P12.4, P12.5).
func TestSame(t *testing.T) {
	p := api.Pace{Window: 500, Thresh: 250, Flying: 100, Since: 5}
	was := p
	for _, c := range calls {
		q, ok, e := c.call(p, [3]int{60, 6, 9})
		q2, ok2, e2 := c.call(p, [3]int{60, 6, 9})
		if q != q2 || ok != ok2 || e != e2 || p != was {
			t.Errorf("%s: %v, %v, %d, then %v, %v, %d", c.name, q, ok, e, q2, ok2, e2)
		}
	}
}
