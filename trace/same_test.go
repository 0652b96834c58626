package trace

import (
	"math"
	"reflect"
	"slices"
	"testing"

	"swath/api"
)

// wantSame asks both ways round.
func wantSame(t *testing.T, a, b api.Trace, want bool) {
	t.Helper()
	if Same(a, b) != want || Same(b, a) != want {
		t.Errorf("that they are alike is wanted to be told as %v of %s and %s", want, text(a), text(b))
	}
}

// rich is a trace that has something everywhere, no two numbers of it the same one. It need be no right one.
func rich() api.Trace {
	x := host(sample(api.InsSetElem))
	x.Ops[0].Args, x.Ops[1].Args = []api.Src{v(0)}, []api.Src{v(0), v(0)}
	n := int64(100)
	for _, part := range parts(&x) {
		if part.CanInt() {
			n++
			part.SetInt(n)
		}
	}
	return x
}

func TestSameAsItself(t *testing.T) { // P16.5
	for _, x := range []api.Trace{{}, rich(), host(plain())} {
		wantSame(t, x, x, true)
		wantSame(t, x, copied(x), true)
	}
	wantSame(t, api.Trace{}, rich(), false)
	wantSame(t, host(plain()), rich(), false)
	wantSame(t, host(plain()), host(sample(api.InsStep)), false)
}

// TestSameButForOneNumber changes each number of a trace in several ways.
func TestSameButForOneNumber(t *testing.T) { // P16.5
	base, changed := rich(), 0
	for at, part := range parts(&base) {
		if !part.CanInt() {
			continue
		}
		for _, n := range []int64{0, -1, 1, 1 << 32, math.MinInt64, math.MaxInt64} {
			x := copied(base)
			parts(&x)[at].SetInt(n)
			wantSame(t, base, x, false)
			parts(&x)[at].SetInt(part.Int() + 1<<32)
			wantSame(t, base, x, false)
		}
		changed++
	}
	// Key, Fn and Pc; Ins; 4 of each operation and link and 1 of each Virt; 4 of each source.
	if want := 2 + 8 + 2 + 3 + 4*4 + 4*4 + 4 + 4*(6+6+7+3); changed != want {
		t.Error(changed, want)
	}
}

// TestSameButForOneList has each list of a trace one shorter (at its end, at its beginning), one longer, empty, turned round.
func TestSameButForOneList(t *testing.T) { // P16.5
	base, changed := rich(), 0
	for at, part := range parts(&base) {
		if part.Kind() != reflect.Slice {
			continue
		}
		long := part.Len()
		with := func(do func(l reflect.Value) reflect.Value, want bool) {
			t.Helper()
			x := copied(base)
			l := parts(&x)[at]
			l.Set(do(l))
			wantSame(t, base, x, want)
		}
		with(func(l reflect.Value) reflect.Value { return l.Slice(0, long) }, true)
		with(func(l reflect.Value) reflect.Value { return reflect.Append(l, reflect.Zero(l.Type().Elem())) }, false)
		if long > 0 {
			with(func(l reflect.Value) reflect.Value { return l.Slice(0, long-1) }, false)
			with(func(l reflect.Value) reflect.Value { return l.Slice(1, long) }, false)
			with(func(l reflect.Value) reflect.Value { return l.Slice(0, 0) }, false)
			with(func(l reflect.Value) reflect.Value { return reflect.Zero(l.Type()) }, false)
			with(func(l reflect.Value) reflect.Value { return reflect.Append(l, l.Index(long-1)) }, false)
		}
		if long > 1 {
			with(func(l reflect.Value) reflect.Value {
				first := reflect.ValueOf(l.Index(0).Interface())
				l.Index(0).Set(l.Index(1))
				l.Index(1).Set(first)
				return l
			}, false)
		}
		changed++
	}
	if want := 5 + 4 + 4 + 4; changed != want {
		t.Error(changed, want)
	}
}

// emptied is the same trace with empty lists for nil ones, and nilled the same with nil ones for empty ones.
func emptied(t api.Trace) api.Trace {
	t = copied(t)
	for _, part := range parts(&t) {
		if part.Kind() == reflect.Slice && part.IsNil() {
			part.Set(reflect.MakeSlice(part.Type(), 0, 3))
		}
	}
	return t
}

func nilled(t api.Trace) api.Trace {
	t = copied(t)
	for _, part := range parts(&t) {
		if part.Kind() == reflect.Slice && part.Len() == 0 {
			part.SetZero()
		}
	}
	return t
}

func TestNilAndEmpty(t *testing.T) { // P3, P16.1, P16.2, P16.4, P16.5
	for _, x := range []api.Trace{{}, host(plain()), host(sample(api.OpDepth)), {Ops: make([]api.Op, 2), Links: make([]api.Link, 3), Virts: make([]api.Virt, 1)}} {
		a, b := emptied(x), nilled(x)
		if a.Links == nil || len(b.Links) == 0 && b.Links != nil {
			t.Fatal("they aren't emptied")
		}
		wantSame(t, a, b, true)
		wantSame(t, x, a, true)
		wantSame(t, x, b, true)
		atA, eA := Check(a)
		atB, eB := Check(b)
		if atA != atB || eA != eB || Show(a) != Show(b) {
			t.Error(atA, eA, atB, eB, Show(a), Show(b))
		}
		for op := range 6 {
			if !slices.Equal(Uses(a, op), Uses(b, op)) {
				t.Error(op, Uses(a, op), Uses(b, op))
			}
		}
	}
}

// TestKeysWhole: greens behind N count too.
func TestKeysWhole(t *testing.T) { // P16.5
	a, b := api.Trace{Key: api.Key{N: 1}}, api.Trace{Key: api.Key{N: 1}}
	wantSame(t, a, b, true)
	b.Key.Greens[3] = api.Value{N: 1}
	wantSame(t, a, b, false)
	a.Key.Greens[3] = api.Value{Kind: api.Null, N: 1}
	wantSame(t, a, b, false)
}
