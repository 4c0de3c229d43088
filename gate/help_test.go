package gate

import (
	"math"
	"reflect"
	"testing"

	"spillway/api"
)

// mustBe ends a test whose own preparations are wrong.
func mustBe(t *testing.T, e api.Errno) {
	t.Helper()
	if e != api.OK {
		t.Fatalf("refused: %d", e)
	}
}

func text(n int) []byte {
	b := make([]byte, n)
	for i := range b {
		b[i] = byte(i*7 + i/256)
	}
	return b
}

// deep is anything in new memory; lists without elements are nil in it, so that they are all alike.
func deep[T any](x T) T {
	return deepValue(reflect.ValueOf(x)).Interface().(T)
}

func deepValue(v reflect.Value) reflect.Value {
	out := reflect.New(v.Type()).Elem()
	switch v.Kind() {
	case reflect.Struct:
		for i := range v.NumField() {
			out.Field(i).Set(deepValue(v.Field(i)))
		}
	case reflect.Array:
		for i := range v.Len() {
			out.Index(i).Set(deepValue(v.Index(i)))
		}
	case reflect.Slice:
		if v.Len() > 0 {
			out.Set(reflect.MakeSlice(v.Type(), v.Len(), v.Len()))
		}
		for i := range v.Len() {
			out.Index(i).Set(deepValue(v.Index(i)))
		}
	default:
		out.Set(v)
	}
	return out
}

func same[T any](a, b T) bool {
	return reflect.DeepEqual(deep(a), deep(b))
}

// room of a list, from its first byte to behind its last one, spare room too.
type room struct{ from, to uintptr }

// rooms of all lists in a thing.
func rooms(v reflect.Value) []room {
	var out []room
	switch v.Kind() {
	case reflect.Struct:
		for i := range v.NumField() {
			out = append(out, rooms(v.Field(i))...)
		}
	case reflect.Array, reflect.Slice:
		if v.Kind() == reflect.Slice && v.Cap() > 0 {
			from := v.Pointer()
			out = append(out, room{from, from + uintptr(v.Cap())*v.Type().Elem().Size()})
		}
		for i := range v.Len() {
			out = append(out, rooms(v.Index(i))...)
		}
	}
	return out
}

// sharing tells whether any two lists in these things share memory.
func sharing(l ...any) bool {
	var all []room
	for _, x := range l {
		all = append(all, rooms(reflect.ValueOf(x))...)
	}
	for i, a := range all {
		for _, b := range all[:i] {
			if a.from < b.to && b.from < a.to {
				return true
			}
		}
	}
	return false
}

// outside are numbers that are not from 0 to a top.
func outside(top int) []int {
	return []int{math.MinInt, math.MinInt + 1, -api.MaxVar, -2, -1, top + 1, top + 2, math.MaxInt - 1, math.MaxInt}
}

// nothing tells whether all results are their zero values.
func nothing(l []any) bool {
	for _, x := range l {
		v := reflect.ValueOf(x)
		if v.Kind() == reflect.Slice && v.Len() == 0 {
			continue
		}
		if !deepValue(v).IsZero() {
			return false
		}
	}
	return true
}

func deepAll(l []any) []any {
	var out []any
	for _, x := range l {
		out = append(out, deepValue(reflect.ValueOf(x)).Interface())
	}
	return out
}

// spacious is a thing in which all lists have spare room, which is filled with what is not zero.
func spacious[T any](x T) T {
	return spaciousValue(reflect.ValueOf(x)).Interface().(T)
}

func spaciousValue(v reflect.Value) reflect.Value {
	out := reflect.New(v.Type()).Elem()
	switch v.Kind() {
	case reflect.Struct:
		for i := range v.NumField() {
			out.Field(i).Set(spaciousValue(v.Field(i)))
		}
	case reflect.Slice:
		l := reflect.MakeSlice(v.Type(), v.Len()+3, v.Len()+3)
		for i := range v.Len() {
			l.Index(i).Set(spaciousValue(v.Index(i)))
		}
		for i := range 3 {
			mark(l.Index(v.Len() + i))
		}
		out.Set(l.Slice(0, v.Len()))
	default:
		out.Set(v)
	}
	return out
}

// mark the first number in a thing.
func mark(v reflect.Value) {
	switch v.Kind() {
	case reflect.Struct:
		mark(v.Field(0))
	case reflect.Uint8:
		v.SetUint(0xa5)
	case reflect.Int:
		v.SetInt(0x5a5a)
	}
}

// spare tells whether the spare room of all lists is still as it was marked.
func spare(x any) bool {
	return spareValue(reflect.ValueOf(x))
}

func spareValue(v reflect.Value) bool {
	switch v.Kind() {
	case reflect.Struct:
		for i := range v.NumField() {
			if !spareValue(v.Field(i)) {
				return false
			}
		}
	case reflect.Slice:
		for i := range v.Len() {
			if !spareValue(v.Index(i)) {
				return false
			}
		}
		all := v.Slice(0, v.Cap())
		for i := range 3 {
			want := reflect.New(v.Type().Elem()).Elem()
			mark(want)
			if !reflect.DeepEqual(all.Index(v.Len()+i).Interface(), want.Interface()) {
				return false
			}
		}
	}
	return true
}
