package ranges

import (
	"math"
	"slices"
	"testing"

	"spillway/api"
)

// set of ranges, told as their ends.
func set(ends ...int) []api.Range {
	var l []api.Range
	for i := 0; i < len(ends); i += 2 {
		l = append(l, api.Range{Lo: ends[i], Hi: ends[i+1]})
	}
	return l
}

// badSets are lists of ranges that are no sets: the first range, or a later one, is wrong.
func badSets() [][]api.Range {
	return [][]api.Range{
		set(-1, 3),
		set(-5, -3),
		set(4, 3),
		set(math.MinInt, math.MaxInt),
		set(math.MaxInt, math.MinInt),
		set(0, api.MaxVar+1),
		set(api.MaxVar+1, api.MaxVar+1),
		set(math.MaxInt, math.MaxInt),
		set(1, 2, 3, 4),
		set(1, 2, 2, 4),
		set(1, 2, 0, 4),
		set(1, 2, 1, 2),
		set(5, 6, 1, 2),
		set(1, 2, 5, 4),
		set(1, 2, -5, -4),
		set(1, math.MaxInt, 3, 4),
		set(1, 2, 4, api.MaxVar+1),
		set(1, 2, 4, math.MaxInt, 6, 7),
		set(1, 2, 4, 5, 7, 8, 9, 10),
		set(1, 2, 4, 5, 7, 8, 10, 9),
		set(api.MaxVar-1, api.MaxVar-1, api.MaxVar, api.MaxVar),
	}
}

// badRanges are ranges that may not be.
func badRanges() []api.Range {
	return set(-1, 3, -3, -2, 1, 0, 2, 1, api.MaxVar, api.MaxVar-1, 0, api.MaxVar+1, api.MaxVar+1, api.MaxVar+1,
		math.MinInt, math.MaxInt, math.MaxInt, math.MinInt, math.MinInt, math.MinInt, math.MaxInt, math.MaxInt)
}

// goodSets are sets that may be.
func goodSets() [][]api.Range {
	return [][]api.Range{
		nil,
		{},
		set(0, 0),
		set(0, api.MaxVar),
		set(api.MaxVar, api.MaxVar),
		set(1, 3, 5, 7),
		set(0, 0, 2, 2, 4, 4, 6, 6, 8, 8, 10, 10, 12, 12, 14, 14, 16, 16),
		set(0, 5, api.MaxVar-1, api.MaxVar),
		set(api.MaxVar-2, api.MaxVar-2, api.MaxVar, api.MaxVar),
	}
}

// setCall is one of Add, Cut and Holes.
type setCall struct {
	name string
	call func([]api.Range, api.Range) ([]api.Range, api.Errno)
}

func setCalls() []setCall {
	return []setCall{{"Add", Add}, {"Cut", Cut}, {"Holes", Holes}}
}

// TestCheck: P3.1, sets of any number of ranges, and lists that are none.
func TestCheck(t *testing.T) {
	for _, l := range goodSets() {
		if e := Check(l); e != api.OK {
			t.Errorf("Check(%v) = %d, want 0", l, e)
		}
	}
	for _, l := range badSets() {
		if e := Check(l); e != api.ErrForm {
			t.Errorf("Check(%v) = %d, want %d", l, e, api.ErrForm)
		}
	}
	var many []api.Range
	for i := range 10000 {
		many = append(many, api.Range{Lo: 3 * i, Hi: 3*i + 1})
	}
	if e := Check(many); e != api.OK {
		t.Errorf("Check of %d ranges = %d, want 0", len(many), e)
	}
	many[9999].Lo = many[9998].Hi + 1
	if e := Check(many); e != api.ErrForm {
		t.Errorf("Check of %d ranges, the last side by side with the one ahead = %d, want %d", len(many), e, api.ErrForm)
	}
}

// TestAdd: P3.2, ranges that stand apart, beside, across and within those of a set.
func TestAdd(t *testing.T) {
	for _, c := range []struct{ l, r, want []api.Range }{
		{nil, set(3, 5), set(3, 5)},
		{nil, set(0, api.MaxVar), set(0, api.MaxVar)},
		{set(4, 6), set(0, 0), set(0, 0, 4, 6)},
		{set(4, 6), set(0, 2), set(0, 2, 4, 6)},
		{set(4, 6), set(0, 3), set(0, 6)},
		{set(4, 6), set(0, 4), set(0, 6)},
		{set(4, 6), set(5, 5), set(4, 6)},
		{set(4, 6), set(4, 6), set(4, 6)},
		{set(4, 6), set(6, 9), set(4, 9)},
		{set(4, 6), set(7, 9), set(4, 9)},
		{set(4, 6), set(8, 9), set(4, 6, 8, 9)},
		{set(4, 6), set(0, 9), set(0, 9)},
		{set(1, 3, 5, 7), set(4, 4), set(1, 7)},
		{set(1, 3, 9, 11), set(5, 7), set(1, 3, 5, 7, 9, 11)},
		{set(1, 3, 9, 11), set(4, 7), set(1, 7, 9, 11)},
		{set(1, 3, 9, 11), set(5, 8), set(1, 3, 5, 11)},
		{set(1, 1, 3, 3, 5, 5, 7, 7), set(2, 5), set(1, 5, 7, 7)},
		{set(1, 1, 3, 3, 5, 5, 7, 7), set(3, 4), set(1, 1, 3, 5, 7, 7)},
		{set(0, 0, 2, 2, 4, 4, 6, 6, 8, 8, 10, 10), set(12, 12), set(0, 0, 2, 2, 4, 4, 6, 6, 8, 8, 10, 10, 12, 12)},
		{set(0, 0), set(api.MaxVar, api.MaxVar), set(0, 0, api.MaxVar, api.MaxVar)},
		{set(api.MaxVar, api.MaxVar), set(api.MaxVar-1, api.MaxVar-1), set(api.MaxVar-1, api.MaxVar)},
		{set(api.MaxVar-1, api.MaxVar-1), set(api.MaxVar, api.MaxVar), set(api.MaxVar-1, api.MaxVar)},
		{set(1, 1, 3, 3, api.MaxVar-4, api.MaxVar-2), set(0, api.MaxVar), set(0, api.MaxVar)},
	} {
		if got, e := Add(c.l, c.r[0]); !slices.Equal(got, c.want) || e != api.OK {
			t.Errorf("Add(%v, %v) = %v, %d, want %v, 0", c.l, c.r[0], got, e, c.want)
		}
	}
}

// TestCut: P3.3, ranges that touch nothing, ends, the middle, and all of a set.
func TestCut(t *testing.T) {
	for _, c := range []struct{ l, r, want []api.Range }{
		{nil, set(3, 5), nil},
		{nil, set(0, api.MaxVar), nil},
		{set(4, 6), set(0, 3), set(4, 6)},
		{set(4, 6), set(7, 9), set(4, 6)},
		{set(4, 6), set(0, 4), set(5, 6)},
		{set(4, 6), set(6, 9), set(4, 5)},
		{set(4, 6), set(5, 5), set(4, 4, 6, 6)},
		{set(4, 6), set(4, 5), set(6, 6)},
		{set(4, 6), set(5, 6), set(4, 4)},
		{set(4, 6), set(4, 6), nil},
		{set(4, 6), set(0, 9), nil},
		{set(1, 3, 5, 7), set(2, 5), set(1, 1, 6, 7)},
		{set(1, 3, 5, 7), set(4, 4), set(1, 3, 5, 7)},
		{set(1, 1, 3, 3, 5, 5, 7, 7), set(2, 5), set(1, 1, 7, 7)},
		{set(0, api.MaxVar), set(0, 0), set(1, api.MaxVar)},
		{set(0, api.MaxVar), set(api.MaxVar, api.MaxVar), set(0, api.MaxVar-1)},
		{set(0, api.MaxVar), set(7, 8), set(0, 6, 9, api.MaxVar)},
		{set(0, 5, 9, api.MaxVar), set(0, api.MaxVar), nil},
	} {
		if got, e := Cut(c.l, c.r[0]); !slices.Equal(got, c.want) || e != api.OK {
			t.Errorf("Cut(%v, %v) = %v, %d, want %v, 0", c.l, c.r[0], got, e, c.want)
		}
	}
}

// TestHoles: P3.4, ranges within, between and around those of a set.
func TestHoles(t *testing.T) {
	for _, c := range []struct{ l, r, want []api.Range }{
		{nil, set(3, 5), set(3, 5)},
		{nil, set(0, api.MaxVar), set(0, api.MaxVar)},
		{set(4, 6), set(0, 3), set(0, 3)},
		{set(4, 6), set(7, 9), set(7, 9)},
		{set(4, 6), set(0, 4), set(0, 3)},
		{set(4, 6), set(6, 9), set(7, 9)},
		{set(4, 6), set(4, 6), nil},
		{set(4, 6), set(5, 5), nil},
		{set(4, 6), set(0, 9), set(0, 3, 7, 9)},
		{set(1, 3, 5, 7), set(0, 8), set(0, 0, 4, 4, 8, 8)},
		{set(1, 3, 5, 7), set(6, 7), nil},
		{set(1, 3, 5, 7), set(2, 6), set(4, 4)},
		{set(1, 3, 5, 7), set(4, 4), set(4, 4)},
		{set(1, 3, 9, 11), set(5, 6), set(5, 6)},
		{set(0, 0, api.MaxVar, api.MaxVar), set(0, api.MaxVar), set(1, api.MaxVar-1)},
		{set(0, api.MaxVar), set(0, api.MaxVar), nil},
		{set(3, 3), set(0, api.MaxVar), set(0, 2, 4, api.MaxVar)},
	} {
		if got, e := Holes(c.l, c.r[0]); !slices.Equal(got, c.want) || e != api.OK {
			t.Errorf("Holes(%v, %v) = %v, %d, want %v, 0", c.l, c.r[0], got, e, c.want)
		}
	}
}

// TestSetCallsRefuse: P3.2 to P3.4, a set that may not be, told ahead of a range that may not be.
func TestSetCallsRefuse(t *testing.T) {
	for _, c := range setCalls() {
		for _, l := range badSets() {
			for _, r := range append(badRanges(), set(0, 0, 1, 2, 0, api.MaxVar)...) {
				if got, e := c.call(l, r); len(got) != 0 || e != api.ErrForm {
					t.Errorf("%s(%v, %v) = %v, %d, want none, %d", c.name, l, r, got, e, api.ErrForm)
				}
			}
		}
		for _, l := range goodSets() {
			for _, r := range badRanges() {
				if got, e := c.call(l, r); len(got) != 0 || e != api.ErrRange {
					t.Errorf("%s(%v, %v) = %v, %d, want none, %d", c.name, l, r, got, e, api.ErrRange)
				}
			}
		}
	}
}

// TestHas: P3.5, numbers at and beside the ends of ranges, and such as no set can have.
func TestHas(t *testing.T) {
	for _, c := range []struct {
		l    []api.Range
		n    int
		want bool
	}{
		{nil, 0, false},
		{set(1, 3, 5, 7), 0, false},
		{set(1, 3, 5, 7), 1, true},
		{set(1, 3, 5, 7), 2, true},
		{set(1, 3, 5, 7), 3, true},
		{set(1, 3, 5, 7), 4, false},
		{set(1, 3, 5, 7), 5, true},
		{set(1, 3, 5, 7), 7, true},
		{set(1, 3, 5, 7), 8, false},
		{set(0, 0), 0, true},
		{set(0, api.MaxVar), api.MaxVar, true},
		{set(0, api.MaxVar), api.MaxVar + 1, false},
		{set(0, api.MaxVar), -1, false},
		{set(0, api.MaxVar), math.MaxInt, false},
		{set(0, api.MaxVar), math.MinInt, false},
	} {
		if got, e := Has(c.l, c.n); got != c.want || e != api.OK {
			t.Errorf("Has(%v, %d) = %v, %d, want %v, 0", c.l, c.n, got, e, c.want)
		}
	}
	for _, l := range badSets() {
		for _, n := range []int{-1, 0, 1, 4, api.MaxVar, math.MaxInt} {
			if got, e := Has(l, n); got || e != api.ErrForm {
				t.Errorf("Has(%v, %d) = %v, %d, want false, %d", l, n, got, e, api.ErrForm)
			}
		}
	}
}

// TestNote: P3.6, numbers that are new and such as are not, and sets of up to and above MaxRanges ranges.
func TestNote(t *testing.T) {
	for _, c := range []struct {
		l     []api.Range
		n     int
		want  []api.Range
		fresh bool
	}{
		{nil, 0, set(0, 0), true},
		{nil, api.MaxVar, set(api.MaxVar, api.MaxVar), true},
		{set(0, 0), 0, set(0, 0), false},
		{set(2, 4), 1, set(1, 4), true},
		{set(2, 4), 5, set(2, 5), true},
		{set(2, 4), 4, set(2, 4), false},
		{set(2, 2, 4, 4), 3, set(2, 4), true},
		{set(0, api.MaxVar), api.MaxVar, set(0, api.MaxVar), false},
		// Six ranges: all may stay.
		{set(2, 2, 4, 4, 6, 6, 8, 8, 10, 10), 12, set(2, 2, 4, 4, 6, 6, 8, 8, 10, 10, 12, 12), true},
		{set(2, 2, 4, 4, 6, 6, 8, 8, 10, 10), 0, set(0, 0, 2, 2, 4, 4, 6, 6, 8, 8, 10, 10), true},
		{set(2, 2, 4, 4, 6, 6, 8, 8, 10, 10, 12, 12), 13, set(2, 2, 4, 4, 6, 6, 8, 8, 10, 10, 12, 13), true},
		{set(2, 2, 4, 4, 6, 6, 8, 8, 10, 10, 12, 12), 2, set(2, 2, 4, 4, 6, 6, 8, 8, 10, 10, 12, 12), false},
		{set(2, 2, 4, 4, 6, 6, 8, 8, 10, 10, 12, 12), 1, set(1, 2, 4, 4, 6, 6, 8, 8, 10, 10, 12, 12), true},
		// A seventh: the lowest one goes, be it the number itself.
		{set(2, 3, 5, 6, 8, 8, 10, 10, 12, 12, 14, 14), 20, set(5, 6, 8, 8, 10, 10, 12, 12, 14, 14, 20, 20), true},
		{set(2, 2, 5, 5, 8, 8, 11, 11, 14, 14, 17, 17), 0, set(2, 2, 5, 5, 8, 8, 11, 11, 14, 14, 17, 17), true},
		{set(1, 1, 6, 6, 8, 8, 11, 11, 14, 14, 17, 17), 4, set(4, 4, 6, 6, 8, 8, 11, 11, 14, 14, 17, 17), true},
		// More of them than may stay are handed in.
		{set(0, 0, 2, 2, 4, 4, 6, 6, 8, 8, 10, 10, 12, 12, 14, 14), 16, set(6, 6, 8, 8, 10, 10, 12, 12, 14, 14, 16, 16), true},
		{set(0, 0, 2, 2, 4, 4, 6, 6, 8, 8, 10, 10, 12, 12, 14, 14), 2, set(4, 4, 6, 6, 8, 8, 10, 10, 12, 12, 14, 14), false},
		{set(0, 0, 2, 2, 4, 4, 6, 6, 8, 8, 10, 10, 12, 12, 14, 14), 1, set(4, 4, 6, 6, 8, 8, 10, 10, 12, 12, 14, 14), true},
		{set(0, 0, 2, 2, 4, 4, 6, 6, 8, 8, 10, 10, 12, 12, 14, 14), 5, set(2, 2, 4, 6, 8, 8, 10, 10, 12, 12, 14, 14), true},
	} {
		if got, fresh, e := Note(c.l, c.n); !slices.Equal(got, c.want) || fresh != c.fresh || e != api.OK {
			t.Errorf("Note(%v, %d) = %v, %v, %d, want %v, %v, 0", c.l, c.n, got, fresh, e, c.want, c.fresh)
		}
	}
}

// TestNoteRefuses: P3.6, a set that may not be, told ahead of a number outside its bounds.
func TestNoteRefuses(t *testing.T) {
	wrong := []int{-1, math.MinInt, api.MaxVar + 1, math.MaxInt}
	for _, l := range badSets() {
		for _, n := range append(wrong, 0, 3, api.MaxVar) {
			if got, fresh, e := Note(l, n); len(got) != 0 || fresh || e != api.ErrForm {
				t.Errorf("Note(%v, %d) = %v, %v, %d, want none, false, %d", l, n, got, fresh, e, api.ErrForm)
			}
		}
	}
	for _, l := range goodSets() {
		for _, n := range wrong {
			if got, fresh, e := Note(l, n); len(got) != 0 || fresh || e != api.ErrRange {
				t.Errorf("Note(%v, %d) = %v, %v, %d, want none, false, %d", l, n, got, fresh, e, api.ErrRange)
			}
		}
	}
}

// ofBits is the set of those numbers whose bits are set.
func ofBits(bits int) []api.Range {
	var l []api.Range
	for n := 0; bits>>n != 0; n++ {
		switch {
		case bits>>n&1 == 0:
		case len(l) > 0 && l[len(l)-1].Hi == n-1:
			l[len(l)-1].Hi = n
		default:
			l = append(l, api.Range{Lo: n, Hi: n})
		}
	}
	return l
}

// TestAllSmall: P3.1 to P3.6, every set of numbers below 9 with every range and number of these.
func TestAllSmall(t *testing.T) {
	const most = 9
	for bits := range 1 << most {
		l := ofBits(bits)
		if e := Check(l); e != api.OK {
			t.Fatalf("Check(%v) = %d, want 0", l, e)
		}
		for hi := range most {
			for lo := range hi + 1 {
				r := api.Range{Lo: lo, Hi: hi}
				mask := 1<<(hi+1) - 1<<lo
				for i, want := range []int{bits | mask, bits &^ mask, mask &^ bits} {
					c := setCalls()[i]
					if got, e := c.call(l, r); !slices.Equal(got, ofBits(want)) || e != api.OK {
						t.Fatalf("%s(%v, %v) = %v, %d, want %v, 0", c.name, l, r, got, e, ofBits(want))
					}
				}
			}
			in := bits>>hi&1 == 1
			if got, e := Has(l, hi); got != in || e != api.OK {
				t.Fatalf("Has(%v, %d) = %v, %d, want %v, 0", l, hi, got, e, in)
			}
			if got, fresh, e := Note(l, hi); !slices.Equal(got, ofBits(bits|1<<hi)) || fresh == in || e != api.OK {
				t.Fatalf("Note(%v, %d) = %v, %v, %d, want %v, %v, 0", l, hi, got, fresh, e, ofBits(bits|1<<hi), !in)
			}
		}
	}
}

// TestNewMemory: what is handed in stays as it is, its spare room too, and no two answers share memory, whether a call changes the set or not.
func TestNewMemory(t *testing.T) {
	note := func(l []api.Range, r api.Range) ([]api.Range, api.Errno) {
		got, _, e := Note(l, r.Lo)
		return got, e
	}
	for _, c := range append(setCalls(), setCall{"Note", note}) {
		for _, ends := range [][]int{nil, {4, 6}, {1, 3, 5, 7}, {0, 0, 2, 2, 4, 4, 6, 6, 8, 8, 10, 10, 12, 12, 14, 14}} {
			for _, r := range set(0, 0, 3, 5, 4, 4, 6, 6, 9, 9, 20, 30, 0, api.MaxVar) {
				room := append(set(ends...), set(70, 71, 72, 73, 74, 75)...)
				kept := slices.Clone(room)
				l := room[:len(ends)/2]
				first, _ := c.call(l, r)
				want := slices.Clone(first)
				second, _ := c.call(l, r)
				second = second[:cap(second)]
				for i := range second {
					second[i] = api.Range{Lo: -7, Hi: -7}
				}
				if !slices.Equal(room, kept) {
					t.Errorf("%s(%v, %v) changes, or shares, what was handed in: %v", c.name, kept[:len(ends)/2], r, room)
				}
				if !slices.Equal(first, want) {
					t.Errorf("%s(%v, %v): two answers share memory", c.name, l, r)
				}
			}
		}
	}
}
