package flow

import (
	"math"
	"testing"

	"spillway/api"
)

// goodFlows are flows that may be, at all their bounds.
func goodFlows() []api.Flow {
	return []api.Flow{
		{},
		{Max: 1},
		{Max: 1, Used: 1},
		{Max: 5, Used: 2},
		{Max: 5, Used: 4},
		{Max: 5, Used: 5},
		{Max: api.MaxAll},
		{Max: api.MaxAll, Used: api.MaxAll},
		{Max: api.MaxVar - 1, Used: api.MaxVar - 1},
		{Max: api.MaxVar},
		{Max: api.MaxVar, Used: 1},
		{Max: api.MaxVar, Used: api.MaxVar - 1},
		{Max: api.MaxVar, Used: api.MaxVar},
	}
}

// badFlows are flows that may not be.
func badFlows() []api.Flow {
	return []api.Flow{
		// Used below 0.
		{Used: -1},
		{Max: 5, Used: -1},
		{Max: api.MaxVar, Used: -1},
		{Max: 5, Used: math.MinInt},
		{Max: -1, Used: -1},
		{Max: -1, Used: -2},
		{Max: math.MinInt, Used: math.MinInt},
		// Used above Max.
		{Used: 1},
		{Max: 5, Used: 6},
		{Max: 5, Used: math.MaxInt},
		{Max: -1},
		{Max: math.MinInt},
		{Max: math.MinInt, Used: 5},
		{Max: math.MinInt, Used: math.MaxInt},
		{Max: api.MaxVar - 1, Used: api.MaxVar},
		{Max: api.MaxVar, Used: api.MaxVar + 1},
		// Max above MaxVar.
		{Max: api.MaxVar + 1},
		{Max: api.MaxVar + 1, Used: 5},
		{Max: api.MaxVar + 1, Used: api.MaxVar + 1},
		{Max: math.MaxInt},
		{Max: math.MaxInt, Used: -1},
		{Max: math.MaxInt, Used: math.MinInt},
		{Max: math.MaxInt, Used: math.MaxInt},
	}
}

// numbers at and beside all bounds.
func numbers() []int {
	return []int{
		math.MinInt, math.MinInt + 1, -api.MaxVar, -2, -1, 0, 1, 2, 3, 4, 5, 6, 7,
		api.MaxAll - 1, api.MaxAll, api.MaxAll + 1,
		api.MaxVar - 2, api.MaxVar - 1, api.MaxVar, api.MaxVar + 1, 2 * api.MaxVar, math.MaxInt - 1, math.MaxInt,
	}
}

// TestCheck: P9.1, flows that may be, and such that may not.
func TestCheck(t *testing.T) {
	for _, f := range goodFlows() {
		if e := Check(f); e != api.OK {
			t.Errorf("Check(%v) = %d, want 0", f, e)
		}
	}
	for _, f := range badFlows() {
		if e := Check(f); e != api.ErrState {
			t.Errorf("Check(%v) = %d, want %d", f, e, api.ErrState)
		}
	}
}

// flowCase is a flow, a number, and what is answered.
type flowCase struct {
	f    api.Flow
	n    int
	want api.Flow
	e    api.Errno
}

func checkCases(t *testing.T, name string, call func(api.Flow, int) (api.Flow, api.Errno), l []flowCase) {
	t.Helper()
	for _, c := range l {
		if f, e := call(c.f, c.n); f != c.want || e != c.e {
			t.Errorf("%s(%v, %d) = %v, %d, want %v, %d", name, c.f, c.n, f, e, c.want, c.e)
		}
	}
}

// TestSpend: P9.2, up to the last byte that is left, and further.
func TestSpend(t *testing.T) {
	none := api.Flow{}
	checkCases(t, "Spend", Spend, []flowCase{
		{api.Flow{Max: 5}, 0, api.Flow{Max: 5}, api.OK},
		{api.Flow{Max: 5}, 1, api.Flow{Max: 5, Used: 1}, api.OK},
		{api.Flow{Max: 5, Used: 2}, 0, api.Flow{Max: 5, Used: 2}, api.OK},
		{api.Flow{Max: 5, Used: 2}, 2, api.Flow{Max: 5, Used: 4}, api.OK},
		{api.Flow{Max: 5, Used: 2}, 3, api.Flow{Max: 5, Used: 5}, api.OK},
		{api.Flow{Max: 5, Used: 2}, 4, none, api.ErrFlow},
		{api.Flow{Max: 5, Used: 2}, 5, none, api.ErrFlow},
		{api.Flow{Max: 5, Used: 5}, 0, api.Flow{Max: 5, Used: 5}, api.OK},
		{api.Flow{Max: 5, Used: 5}, 1, none, api.ErrFlow},
		{none, 0, none, api.OK},
		{none, 1, none, api.ErrFlow},
		{none, api.MaxVar + 1, none, api.ErrFlow},
		{api.Flow{Max: api.MaxVar}, api.MaxVar, api.Flow{Max: api.MaxVar, Used: api.MaxVar}, api.OK},
		{api.Flow{Max: api.MaxVar}, api.MaxVar + 1, none, api.ErrFlow},
		{api.Flow{Max: api.MaxVar, Used: 1}, api.MaxVar, none, api.ErrFlow},
		{api.Flow{Max: api.MaxVar, Used: api.MaxVar}, math.MaxInt, none, api.ErrFlow},
		{api.Flow{Max: 5, Used: 5}, math.MaxInt - 4, none, api.ErrFlow},
		{api.Flow{Max: 5, Used: 2}, -1, none, api.ErrRange},
		{api.Flow{Max: 5, Used: 2}, -2, none, api.ErrRange},
		{api.Flow{Max: 5, Used: 5}, -1, none, api.ErrRange},
		{api.Flow{Max: api.MaxVar}, math.MinInt, none, api.ErrRange},
		{api.Flow{Max: api.MaxVar, Used: api.MaxVar}, math.MinInt, none, api.ErrRange},
	})
}

// TestGrant: P9.3, more than Max, less, and outside the bounds.
func TestGrant(t *testing.T) {
	none := api.Flow{}
	checkCases(t, "Grant", Grant, []flowCase{
		{api.Flow{Max: 5, Used: 2}, 9, api.Flow{Max: 9, Used: 2}, api.OK},
		{api.Flow{Max: 5, Used: 2}, 6, api.Flow{Max: 6, Used: 2}, api.OK},
		{api.Flow{Max: 5, Used: 2}, 5, api.Flow{Max: 5, Used: 2}, api.OK},
		{api.Flow{Max: 5, Used: 2}, 4, api.Flow{Max: 5, Used: 2}, api.OK},
		// Below Used is not refused: Max stays.
		{api.Flow{Max: 5, Used: 2}, 1, api.Flow{Max: 5, Used: 2}, api.OK},
		{api.Flow{Max: 5, Used: 2}, 0, api.Flow{Max: 5, Used: 2}, api.OK},
		{api.Flow{Max: 5, Used: 5}, 6, api.Flow{Max: 6, Used: 5}, api.OK},
		{none, 0, none, api.OK},
		{none, api.MaxVar, api.Flow{Max: api.MaxVar}, api.OK},
		{api.Flow{Max: api.MaxVar, Used: 3}, api.MaxVar, api.Flow{Max: api.MaxVar, Used: 3}, api.OK},
		{api.Flow{Max: api.MaxVar, Used: 3}, 7, api.Flow{Max: api.MaxVar, Used: 3}, api.OK},
		{api.Flow{Max: 5, Used: 2}, api.MaxVar + 1, none, api.ErrRange},
		{api.Flow{Max: api.MaxVar}, api.MaxVar + 1, none, api.ErrRange},
		{api.Flow{Max: 5, Used: 2}, math.MaxInt, none, api.ErrRange},
		{api.Flow{Max: 5, Used: 2}, -1, none, api.ErrRange},
		{none, -1, none, api.ErrRange},
		{api.Flow{Max: 5, Used: 2}, math.MinInt, none, api.ErrRange},
	})
}

// TestState: P9.2 and P9.3, what Check refuses is told ahead of all else.
func TestState(t *testing.T) {
	for _, f := range badFlows() {
		for _, n := range numbers() {
			if got, e := Spend(f, n); got != (api.Flow{}) || e != api.ErrState {
				t.Errorf("Spend(%v, %d) = %v, %d, want nothing, %d", f, n, got, e, api.ErrState)
			}
			if got, e := Grant(f, n); got != (api.Flow{}) || e != api.ErrState {
				t.Errorf("Grant(%v, %d) = %v, %d, want nothing, %d", f, n, got, e, api.ErrState)
			}
		}
	}
}

// TestBounds: P9.1 to P9.3, whatever is asked of a flow that may be, only the field that is meant changes, and the flow may be again.
func TestBounds(t *testing.T) {
	for _, f := range goodFlows() {
		for _, n := range numbers() {
			checkBounds(t, "Spend", f, n, Spend, func(got api.Flow) bool {
				return got.Max == f.Max && got.Used-n == f.Used
			})
			checkBounds(t, "Grant", f, n, Grant, func(got api.Flow) bool {
				return got.Used == f.Used && got.Max >= f.Max && got.Max >= n && (got.Max == f.Max || got.Max == n)
			})
		}
	}
}

func checkBounds(t *testing.T, name string, f api.Flow, n int, call func(api.Flow, int) (api.Flow, api.Errno), right func(api.Flow) bool) {
	t.Helper()
	got, e := call(f, n)
	if e == api.OK && (!right(got) || Check(got) != api.OK) || e != api.OK && got != (api.Flow{}) {
		t.Errorf("%s(%v, %d) = %v, %d", name, f, n, got, e)
	}
}

// TestSmall: P9.1 to P9.3, every small flow, and every small number, one unit of each at a time.
func TestSmall(t *testing.T) {
	const top = 12
	for most := range top {
		for used := range most + 1 {
			f := api.Flow{Max: most, Used: used}
			for n := range 2 * top {
				want := flowCase{f, n, api.Flow{Max: most, Used: used + n}, api.OK}
				if used+n > most {
					want.want, want.e = api.Flow{}, api.ErrFlow
				}
				checkCases(t, "Spend", Spend, []flowCase{want})
				want = flowCase{f, n, f, api.OK}
				if n > most {
					want.want.Max = n
				}
				checkCases(t, "Grant", Grant, []flowCase{want})
			}
		}
	}
}

// TestSpendGranted: P9.2 and P9.3, what is granted, and no byte more, can be spent, by and by.
func TestSpendGranted(t *testing.T) {
	f, granted := api.Flow{}, 0
	for _, most := range []int{7, 100, 50, api.MaxAll, 1 << 40, api.MaxVar} {
		f, _ = Grant(f, most)
		granted = max(granted, most)
		for f.Used < granted {
			half := (granted - f.Used + 1) / 2
			got, e := Spend(f, half)
			if want := (api.Flow{Max: granted, Used: f.Used + half}); got != want || e != api.OK {
				t.Fatalf("Spend(%v, %d) = %v, %d, want %v, 0", f, half, got, e, want)
			}
			f = got
		}
		if _, e := Spend(f, 1); e != api.ErrFlow {
			t.Errorf("Spend(%v, 1) = %d, want %d", f, e, api.ErrFlow)
		}
	}
}
