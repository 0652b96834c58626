package cache

import (
	"math"
	"testing"

	"swath/api"
)

func TestGet(t *testing.T) { // P15.3
	p := pairOf(t, 2, 1)
	p.get(key(1)) // was never there
	p.put(rich(key(1), 100))
	p.put(rich(key(2), 200))
	for range 3 {
		got, id, is := p.cache.Get(key(2))
		if text(got) != text(rich(key(2), 200)) || id != 2 || !is {
			t.Fatal(got, id, is)
		}
		got, id, is = p.cache.Get(key(1))
		if text(got) != text(rich(key(1), 100)) || id != 1 || !is {
			t.Fatal(got, id, is)
		}
	}
	p.put(rich(key(3), 300))
	// 2 went for 3.
	if got, id, is := p.cache.Get(key(2)); text(got) != text(api.Trace{}) || id != 0 || is {
		t.Fatal(got, id, is)
	}
	p.put(rich(key(1), 400))
	if got, id, is := p.cache.Get(key(1)); text(got) != text(rich(key(1), 400)) || id != 4 || !is {
		t.Fatal(got, id, is)
	}
	p.drop(key(1))
	if got, id, is := p.cache.Get(key(1)); text(got) != text(api.Trace{}) || id != 0 || is {
		t.Fatal(got, id, is)
	}
	p.lookAtAll(key(0), key(1), key(2), key(4))
}

func TestDrop(t *testing.T) { // P15.3, P15.5
	p := pairOf(t, 3, 1, 1, 1)
	if p.drop(key(1)) {
		t.Fatal("there was none yet")
	}
	for n := 1; n <= 3; n++ {
		p.put(empty(n))
	}
	if p.drop(key(0)) || p.drop(api.Key{Merge: 1, N: 1}) {
		t.Fatal("it was never there")
	}
	if !p.drop(key(2)) || p.drop(key(2)) || p.drop(key(2)) {
		t.Fatal("2")
	}
	p.holds(1, 3)
	// There is room: nothing goes, and no pick is used.
	p.put(empty(4))
	p.holds(1, 3, 4)
	p.put(empty(5))
	p.holds(1, 4, 5)
	if p.drop(key(3)) {
		t.Fatal("3 went by Put")
	}
	if !p.drop(key(1)) || !p.drop(key(5)) || !p.drop(key(4)) || p.drop(key(1)) {
		t.Fatal("the others")
	}
	p.holds()
	if p.cache.Most() != 3 {
		t.Fatal(p.cache.Most())
	}
	// A key that went comes again, with an id of its own.
	if id := p.put(empty(2)); id != 6 || !p.drop(key(2)) || p.drop(key(2)) {
		t.Fatal(id)
	}
}

// others are keys that differ from one in a single field.
func others(k api.Key) []api.Key {
	var l []api.Key
	put := func(change func(k *api.Key)) {
		other := k
		change(&other)
		l = append(l, other)
	}
	put(func(k *api.Key) { k.Merge++ })
	put(func(k *api.Key) { k.Merge ^= 1 << 32 })
	put(func(k *api.Key) { k.Merge ^= math.MinInt })
	put(func(k *api.Key) { k.N++ })
	put(func(k *api.Key) { k.N-- })
	for n := range api.MaxGreens {
		put(func(k *api.Key) { k.Greens[n].N++ })
		put(func(k *api.Key) { k.Greens[n].N ^= 1 << 32 })
		put(func(k *api.Key) { k.Greens[n].N ^= math.MinInt64 })
		put(func(k *api.Key) { k.Greens[n].Kind++ })
		put(func(k *api.Key) { k.Greens[n].Kind-- })
	}
	return l
}

// TestKeysThatDiffer: a trace is found, put anew and dropped by its own key alone, also by one that no merge can have.
func TestKeysThatDiffer(t *testing.T) { // P15.2, P15.3
	for _, k := range []api.Key{
		{},
		{Merge: 3, N: 2, Greens: [api.MaxGreens]api.Value{{N: 4}, {Kind: api.Null}}},
		{Merge: -5, N: -1, Greens: [api.MaxGreens]api.Value{{Kind: 9, N: 1}, {Kind: -9}, {Kind: api.Ref, N: -1}, {N: math.MinInt64}}},
	} {
		p := pairOf(t, 100)
		p.put(rich(k, 1))
		l := others(k)
		for n, other := range l {
			if p.get(other) != 0 || p.drop(other) {
				t.Fatal(other, "is taken for", k)
			}
			if id := p.put(rich(other, n+2)); id != n+2 || len(p.cache.Keys()) != n+2 {
				t.Fatal(other, "is taken for", k)
			}
		}
		p.lookAtAll()
		for _, other := range l {
			if !p.drop(other) || p.get(k) != 1 {
				t.Fatal(k, "goes with", other)
			}
		}
	}
}

// TestOnlyKeyCounts: traces that no chapter would take are held as they are, and two that differ by their keys alone are two.
func TestOnlyKeyCounts(t *testing.T) { // P15.2, P1
	p := pairOf(t, 10)
	for n, edge := range edges {
		p.put(rich(key(n%7), edge))
		p.get(key(n % 7))
	}
	same := rich(key(100), 5)
	p.put(same)
	same.Key = key(101)
	p.put(same)
	if p.get(key(100)) == p.get(key(101)) {
		t.Error("one of both is gone")
	}
	for _, n := range []int{0, 1, 5000} {
		p.put(api.Trace{Key: key(200 + n), Ins: make([]int, n), Ops: make([]api.Op, n), Links: make([]api.Link, n), Virts: make([]api.Virt, n), Back: make([]api.Src, n)})
		p.get(key(200 + n))
	}
}

// TestKeysAndMost asks for both behind every kind of call.
func TestKeysAndMost(t *testing.T) { // P15.5
	c := New(3, []int{1})
	want := func(most int, merges ...int) {
		t.Helper()
		for range 2 {
			p := pair{TB: t, cache: c, want: &reckoning{limit: 3, most: most}}
			for _, k := range keys(merges...) {
				p.want.rows = append(p.want.rows, row{key: k})
			}
			p.look()
		}
	}
	want(0)
	c.Put(empty(1))
	want(1, 1)
	c.Put(empty(1))
	want(1, 1)
	c.Put(empty(2))
	want(2, 1, 2)
	c.Put(empty(1))
	want(2, 2, 1)
	c.Drop(key(2))
	want(2, 1)
	c.Drop(key(2))
	want(2, 1)
	c.Put(empty(3))
	want(2, 1, 3)
	c.Put(empty(4))
	want(3, 1, 3, 4)
	c.Get(key(1))
	c.Get(key(9))
	want(3, 1, 3, 4)
	c.Fail(3, 0)
	c.Fail(99, 0)
	want(3, 1, 3, 4)
	c.Link(3, 0, 5)
	c.Link(3, -1, 5)
	c.Link(3, 0, 99)
	want(3, 1, 3, 4)
	c.Linked(3, 0)
	c.Linked(3, 1)
	want(3, 1, 3, 4)
	c.Put(empty(5)) // 3 goes, by the pick
	want(3, 1, 4, 5)
	c.Put(empty(4))
	want(3, 1, 5, 4)
	c.Drop(key(1))
	c.Drop(key(5))
	c.Drop(key(4))
	want(3)
	c.Put(empty(6))
	want(3, 6)
}
