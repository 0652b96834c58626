package cache

import (
	"math"
	"testing"

	"swath/api"
)

func TestExample(t *testing.T) { // the chapter's example
	c := New(2, []int{1})
	if c.Put(empty('a')) != 1 || c.Put(empty('b')) != 2 || c.Put(empty('c')) != 3 {
		t.Fatal("ids")
	}
	if k := c.Keys(); len(k) != 2 || k[0] != key('a') || k[1] != key('c') {
		t.Error(k)
	}
	if _, _, is := c.Get(key('b')); is {
		t.Error("b is still held")
	}
}

// wantNothing wants a cache that holds nothing, notes nothing and links nothing, whatever is asked of it.
func wantNothing(t *testing.T, c *Cache) {
	t.Helper()
	odd := api.Key{Merge: -1, N: 9, Greens: [api.MaxGreens]api.Value{{Kind: 7, N: 5}}}
	for range 3 {
		for _, k := range []api.Key{{}, key(1), odd} {
			if n := c.Put(rich(k, 3)); n != -1 {
				t.Fatal("Put", n)
			}
			if got, id, is := c.Get(k); text(got) != text(api.Trace{}) || id != 0 || is {
				t.Fatal("Get", got, id, is)
			}
			if c.Drop(k) {
				t.Fatal("Drop")
			}
		}
		for _, id := range edges {
			for _, op := range edges {
				if n := c.Fail(id, op); n != 0 {
					t.Fatal("Fail", id, op, n)
				}
				if e := c.Link(id, op, id); e != api.ErrNone {
					t.Fatal("Link", id, op, e)
				}
				if e := c.Link(id, op, 1); e != api.ErrNone {
					t.Fatal("Link", id, op, e)
				}
				if to, is := c.Linked(id, op); to != 0 || is {
					t.Fatal("Linked", id, op, to, is)
				}
			}
		}
		if k := c.Keys(); len(k) != 0 || c.Most() != 0 {
			t.Fatal(k, c.Most())
		}
	}
}

func TestNoCache(t *testing.T) { // P15.1, P1
	wantNothing(t, nil)
	wantNothing(t, &Cache{})
	wantNothing(t, new(Cache))
	var c Cache
	wantNothing(t, &c)
}

func TestNoRoom(t *testing.T) { // P15.1, P15.2, P15.7
	for _, limit := range []int{0, -1, -2, -api.MaxTraces, math.MinInt32, math.MinInt + 1, math.MinInt} {
		wantNothing(t, New(limit, nil))
		wantNothing(t, New(limit, []int{0, 1, -1}))
	}
}

// TestLimits has caches filled to the limit and far above it.
func TestLimits(t *testing.T) { // P15.1, P15.2, P15.5, P15.7
	for limit, want := range map[int]int{
		1: 1, 2: 2, 3: 3, 64: 64, 257: 257,
		api.MaxTraces - 1: api.MaxTraces - 1, api.MaxTraces: api.MaxTraces, api.MaxTraces + 1: api.MaxTraces,
		2 * api.MaxTraces: api.MaxTraces, math.MaxInt32: api.MaxTraces, 1 << 32: api.MaxTraces, math.MaxInt: api.MaxTraces,
	} {
		c := New(limit, nil)
		if c.Most() != 0 || len(c.Keys()) != 0 {
			t.Fatal(limit, "is not empty")
		}
		for n := 1; n <= want+50; n++ {
			if id := c.Put(empty(n)); id != n {
				t.Fatal("limit", limit, "id", id, "instead of", n)
			}
			if m := c.Most(); m != min(n, want) {
				t.Fatal("limit", limit, "most", m, "behind", n)
			}
			// No picks: the one goes that has been there longest.
			k := c.Keys()
			if len(k) != min(n, want) || k[0] != key(max(1, n-want+1)) || k[len(k)-1] != key(n) {
				t.Fatal("limit", limit, "behind", n, "are", len(k))
			}
		}
	}
}

func TestNewIsEmpty(t *testing.T) { // P15.1
	for _, limit := range edges {
		p := pairOf(t, limit, 1, 2)
		p.lookAtAll(key(0), key(1), api.Key{N: 3})
		for _, id := range edges {
			p.fail(id, 0)
			p.link(id, 0, id)
			p.linked(id, 0)
		}
		p.drop(key(0))
	}
}

// TestApart: what is done with one cache changes no other one.
func TestApart(t *testing.T) { // P3
	picks := []int{1, 1, 1}
	c, d := New(2, picks), New(2, picks)
	for n := range 4 {
		c.Put(empty(n))
	}
	c.Link(1, 0, 4)
	c.Fail(1, 0)
	if len(d.Keys()) != 0 || d.Most() != 0 || d.Fail(1, 0) != 0 {
		t.Fatal("the other one holds", d.Keys())
	}
	for n := range 4 {
		if id := d.Put(empty(n)); id != n+1 {
			t.Fatal(id)
		}
	}
	if k := d.Keys(); len(k) != 2 || k[0] != key(0) || k[1] != key(3) || d.Fail(1, 0) != 1 {
		t.Fatal(k)
	}
	if to, is := d.Linked(1, 0); is {
		t.Fatal(to)
	}
}
