package profile

import (
	"math"
	"math/rand"
	"slices"
	"testing"

	"swath/api"
)

// wantKey wants these greens to be taken with any merge, and the key to have just them.
func wantKey(t testing.TB, greens ...api.Value) {
	t.Helper()
	for _, merge := range edges {
		k, is := KeyOf(merge, greens)
		if !is || k.Merge != merge || k.N != len(greens) || !slices.Equal(k.Greens[:len(greens)], greens) {
			t.Fatal(merge, greens, "are", k, is)
		}
		for n := len(greens); n < api.MaxGreens; n++ {
			if k.Greens[n] != (api.Value{}) {
				t.Fatal("behind", greens, "stands", k)
			}
		}
	}
}

// wantNoKey wants these greens not to be taken, with whatever merge.
func wantNoKey(t testing.TB, greens ...api.Value) {
	t.Helper()
	for _, merge := range edges {
		if k, is := KeyOf(merge, greens); is || k != (api.Key{}) {
			t.Fatal(merge, greens, "are", k, is)
		}
	}
}

func TestHowManyGreens(t *testing.T) { // P14.1
	wantKey(t)
	for n := range 12 {
		numbers, nulls := make([]api.Value, n), make([]api.Value, n)
		for at := range n {
			numbers[at], nulls[at] = num(int64(100+at)), null
		}
		for _, l := range [][]api.Value{numbers, nulls, make([]api.Value, n)} {
			if n <= api.MaxGreens {
				wantKey(t, l...)
			} else {
				wantNoKey(t, l...)
			}
		}
	}
	wantNoKey(t, make([]api.Value, 100000)...)
	// Greens that are too many are none, of whatever kind.
	wantNoKey(t, num(1), num(2), num(3), num(4), api.Value{Kind: api.Ref})
}

func TestKindsOfGreens(t *testing.T) { // P14.1
	for _, n := range edges {
		wantKey(t, num(int64(n)))
		wantNoKey(t, api.Value{Kind: api.Ref, N: int64(n)})
		// A Null whose number isn't 0 is odd, but no less null.
		wantKey(t, api.Value{Kind: api.Null, N: int64(n)})
	}
	for _, kind := range append([]int{-2, 258, 1<<32 | api.Null}, edges...) {
		if kind == api.Int || kind == api.Null {
			continue
		}
		for _, n := range edges {
			wantNoKey(t, api.Value{Kind: kind, N: int64(n)})
		}
	}
}

// TestOneWrongGreen has it at each place of as many greens as may be.
func TestOneWrongGreen(t *testing.T) { // P14.1
	for length := 1; length <= api.MaxGreens; length++ {
		for at := range length {
			l := slices.Repeat([]api.Value{num(7)}, length)
			l[at] = null
			wantKey(t, l...)
			for _, kind := range []int{api.Ref, 3, -1, math.MaxInt, math.MinInt} {
				l[at] = api.Value{Kind: kind}
				wantNoKey(t, l...)
			}
		}
	}
}

// TestKeysApart: greens that differ have keys that differ, also those that are the zero value.
func TestKeysApart(t *testing.T) { // P14.1
	greens := [][]api.Value{nil, {num(0)}, {num(0), num(0)}, {num(0), num(0), num(0)}, {num(0), num(0), num(0), num(0)}, {null}, {num(1)}, {num(-1)},
		{num(0), num(1)}, {num(1), num(0)}, {null, num(0)}, {num(0), null}, {num(1 << 32)}, {{Kind: api.Null, N: 1}}}
	seen := map[api.Key]int{}
	for _, merge := range edges {
		for n, l := range greens {
			k, is := KeyOf(merge, l)
			if seen[k] != 0 || !is {
				t.Error(merge, n, k, is)
			}
			seen[k] = 1
			if again, _ := KeyOf(merge, slices.Clone(l)); again != k {
				t.Error(k, again)
			}
		}
	}
}

func TestNilAndEmptyGreens(t *testing.T) { // P14.1, P3
	a, isA := KeyOf(5, nil)
	b, isB := KeyOf(5, []api.Value{})
	if a != b || !isA || !isB || a != (api.Key{Merge: 5}) {
		t.Error(a, isA, b, isB)
	}
}

// TestGreensStay has room behind the greens, with what would count if it were read.
func TestGreensStay(t *testing.T) { // P14.1, P1, P2
	m := rand.New(rand.NewSource(141))
	taken := 0
	for range 20000 {
		room := make([]api.Value, 9)
		for at := range room {
			room[at] = api.Value{Kind: []int{api.Int, api.Null, api.Int, api.Null, api.Int, m.Intn(5) - 1}[m.Intn(6)], N: int64(m.Uint64())}
		}
		before := slices.Clone(room)
		l := room[2 : 2+m.Intn(7)]
		right := len(l) <= api.MaxGreens && !slices.ContainsFunc(l, func(v api.Value) bool { return v.Kind < 0 || v.Kind > 1 })
		if right {
			wantKey(t, l...)
			taken++
		} else {
			wantNoKey(t, l...)
		}
		k, _ := KeyOf(3, l)
		if !slices.Equal(room, before) {
			t.Fatal("the greens have changed:", before, room)
		}
		kept := k
		clear(room)
		if k != kept {
			t.Fatal("the key changes with the greens")
		}
	}
	if taken < 3000 || taken > 17000 {
		t.Error(taken)
	}
}
