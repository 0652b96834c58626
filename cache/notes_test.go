package cache

import (
	"math"
	"testing"

	"swath/api"
)

func TestFail(t *testing.T) { // P15.4
	p := pairOf(t, 2)
	p.put(rich(key(1), 4))
	p.put(empty(2))
	for n := 1; n <= 20; n++ {
		if p.fail(1, 0) != n || p.fail(2, 0) != n || p.fail(1, 7) != n {
			t.Fatal(n)
		}
	}
	for _, id := range []int{0, -1, 3, 4, 1 + 1<<32, math.MaxInt, math.MinInt} {
		for range 3 {
			if n := p.fail(id, 0); n != 0 {
				t.Fatal(id, n)
			}
		}
	}
	if n := p.fail(1, 0); n != 21 {
		t.Fatal(n)
	}
}

// TestFailAnywhere: every number is an operation of its own, also -1 (which chapter 24 tells, when the turns are used up) and those that the trace hasn't.
func TestFailAnywhere(t *testing.T) { // P15.4
	p := pairOf(t, 3)
	p.put(empty(1))
	p.put(empty(2))
	for n := 1; n <= 5; n++ {
		for _, op := range edges {
			if got := p.fail(1, op); got != n {
				t.Fatal(op, got, "instead of", n)
			}
		}
		p.fail(2, 9)
		p.get(key(1))
		p.link(1, n, 2)
		p.linked(1, n)
		p.drop(key(77))
	}
}

// TestFailWhenGone: counts go with the trace, and one that comes with the same key begins anew.
func TestFailWhenGone(t *testing.T) { // P15.4
	p := pairOf(t, 2, 1)
	p.put(empty(1))
	p.put(empty(2))
	for range 3 {
		p.fail(1, 5)
		p.fail(2, 5)
	}
	p.put(empty(1)) // 3, in the place of 1
	if p.fail(1, 5) != 0 || p.fail(3, 5) != 1 || p.fail(2, 5) != 4 || p.fail(3, 5) != 2 {
		t.Fatal("put anew")
	}
	p.drop(key(2))
	if p.fail(2, 5) != 0 || p.fail(3, 5) != 3 {
		t.Fatal("dropped")
	}
	p.put(empty(2)) // 4
	if p.fail(2, 5) != 0 || p.fail(4, 5) != 1 {
		t.Fatal("put behind a drop")
	}
	p.put(empty(9)) // 5: the pick has 4 go
	if p.fail(4, 5) != 0 || p.fail(3, 5) != 4 || p.fail(5, 5) != 1 {
		t.Fatal("gone for another")
	}
}

func TestLink(t *testing.T) { // P15.6
	p := pairOf(t, 4)
	for n := 1; n <= 3; n++ {
		p.put(empty(n))
	}
	none := []int{0, -1, -2, -3, 4, 5, 1 + 1<<32, math.MaxInt, math.MinInt}
	for _, op := range edges {
		wrong := api.OK
		if op < 0 {
			wrong = api.ErrRange
		}
		for id := 1; id <= 3; id++ {
			for to := 1; to <= 3; to++ {
				if e := p.link(id, op, to); e != wrong {
					t.Fatal(id, op, to, e)
				}
			}
			before, was := p.linked(id, op)
			for _, other := range none {
				// That there is no such trace is named first, ahead of the operation.
				if e := p.link(id, op, other); e != api.ErrNone {
					t.Fatal(id, op, other, e)
				}
				if e := p.link(other, op, id); e != api.ErrNone {
					t.Fatal(other, op, id, e)
				}
				if e := p.link(other, op, other); e != api.ErrNone {
					t.Fatal(other, op, other, e)
				}
				if to, is := p.linked(other, op); to != 0 || is {
					t.Fatal(other, op, to)
				}
			}
			// P4: what was refused has changed nothing.
			if to, is := p.linked(id, op); to != before || is != was || is != (op >= 0) {
				t.Fatal(id, op, to, is)
			}
		}
	}
}

func TestLinked(t *testing.T) { // P15.6
	p := pairOf(t, 3)
	p.put(empty(1))
	p.put(empty(2))
	p.put(empty(3))
	want := func(id, op, to int, is bool) {
		t.Helper()
		if got, there := p.linked(id, op); got != to || there != is {
			t.Fatal(id, op, "leads to", got, there)
		}
	}
	want(1, 0, 0, false)
	p.link(1, 0, 2)
	want(1, 0, 2, true)
	want(1, 1, 0, false)
	want(1, -1, 0, false)
	want(2, 0, 0, false)
	p.link(1, 1, 3)
	p.link(2, 0, 1)
	p.link(1, math.MaxInt, 2)
	want(1, 0, 2, true)
	want(1, 1, 3, true)
	want(2, 0, 1, true)
	want(1, math.MaxInt, 2, true)
	// In the place of what was noted.
	p.link(1, 0, 3)
	want(1, 0, 3, true)
	want(1, 1, 3, true)
	// To itself.
	p.link(1, 0, 1)
	want(1, 0, 1, true)
	p.link(3, 0, 3)
	want(3, 0, 3, true)
}

// TestLinkedWhenGone has each of both traces go in each way.
func TestLinkedWhenGone(t *testing.T) { // P15.6
	ways := []struct {
		name  string
		picks []int
		goes  func(p pair, n int)
	}{
		{"by a drop", nil, func(p pair, n int) { p.drop(key(n)) }},
		{"by its key", nil, func(p pair, n int) { p.put(empty(n)) }},
		{"for another", []int{0}, func(p pair, n int) { p.put(empty(100)) }},
	}
	for _, way := range ways {
		for gone := 1; gone <= 4; gone++ {
			p := pairOf(t, 4, gone-1)
			for n := 1; n <= 4; n++ {
				p.put(empty(n))
			}
			for id := 1; id <= 4; id++ {
				for to := 1; to <= 4; to++ {
					p.link(id, to, to)
					p.link(id, 10+to, 1)
					p.link(id, 10+to, to)
					p.link(id, 20+to, to)
					p.link(id, 20+to, id)
				}
			}
			way.goes(p, gone)
			for id := 1; id <= 5; id++ {
				for to := 1; to <= 4; to++ {
					both := id != gone && to != gone && id != 5
					for _, op := range []int{to, 10 + to} {
						if got, is := p.linked(id, op); is != both || is && got != to {
							t.Fatal(way.name, "goes", gone, "and", id, "leads to", got, is)
						}
					}
					if got, is := p.linked(id, 20+to); is != (id != gone && id != 5) || is && got != id {
						t.Fatal(way.name, "goes", gone, "and", id, "leads to", got, is)
					}
				}
			}
		}
	}
}

// TestLinkedAnew: what went is not back when the keys come again, but may be noted again.
func TestLinkedAnew(t *testing.T) { // P15.6
	p := pairOf(t, 2)
	p.put(empty(1))
	p.put(empty(2))
	p.link(1, 0, 2)
	p.link(2, 0, 1)
	p.put(empty(2)) // 3
	for _, id := range []int{1, 2, 3} {
		if to, is := p.linked(id, 0); is {
			t.Fatal(id, to)
		}
	}
	if p.link(1, 0, 2) != api.ErrNone || p.link(2, 0, 1) != api.ErrNone || p.link(1, 0, 3) != api.OK || p.link(3, 0, 1) != api.OK {
		t.Fatal("links anew")
	}
	p.drop(key(1))
	p.put(empty(1)) // 4
	if p.link(4, 0, 3) != api.OK || p.link(3, 0, 1) != api.ErrNone {
		t.Fatal("links anew")
	}
	if to, is := p.linked(3, 0); is {
		t.Fatal(to)
	}
}

// TestOverwrittenIsForgotten: when the trace goes that a place led to before, the place still leads where it leads now; when that one goes, not back.
func TestOverwrittenIsForgotten(t *testing.T) { // P15.6
	p := pairOf(t, 3)
	for n := 1; n <= 3; n++ {
		p.put(empty(n))
	}
	p.link(1, 0, 2)
	p.link(1, 0, 3)
	p.drop(key(2))
	if to, is := p.linked(1, 0); to != 3 || !is {
		t.Fatal(to, is)
	}
	p.put(empty(2)) // 4
	p.link(1, 0, 4)
	p.link(1, 0, 3)
	p.drop(key(3))
	if to, is := p.linked(1, 0); is {
		t.Fatal(to)
	}
}

// TestNotesApart: counts and links of one place have nothing to do with each other.
func TestNotesApart(t *testing.T) { // P15.4, P15.6
	p := pairOf(t, 2)
	p.put(empty(1))
	p.put(empty(2))
	p.fail(1, 3)
	if to, is := p.linked(1, 3); is {
		t.Fatal(to)
	}
	p.link(1, 3, 2)
	if n := p.fail(1, 3); n != 2 {
		t.Fatal(n)
	}
	p.link(1, 3, 1)
	p.linked(1, 3)
	if n := p.fail(1, 3); n != 3 {
		t.Fatal(n)
	}
	p.linked(2, 3)
	if n := p.fail(2, 3); n != 1 {
		t.Fatal(n)
	}
}

// TestNothingLeftBehind: of traces that have gone nothing is kept, nor of what was refused or only asked for.
func TestNothingLeftBehind(t *testing.T) {
	p := pairOf(t, 3, 2, 1, 0, -7)
	for n := range 500 {
		id := p.put(empty(n % 5))
		for op := range 3 {
			p.fail(id, op)
			p.fail(id-9, op)
			p.link(id, op, id-1)
			p.link(id, op, id)
			p.link(id-1, op, id)
			p.link(id, op-9, id)
			p.linked(id, op+50)
		}
		p.drop(key(n % 4))
		if len(p.cache.held) > 3 || len(p.cache.order) > 3 || p.kept() > 3*(3+3) {
			t.Fatal(n, len(p.cache.held), len(p.cache.order), p.kept())
		}
	}
	for n := range 5 {
		p.drop(key(n))
	}
	if len(p.cache.held) != 0 || len(p.cache.order) != 0 || p.kept() != 0 {
		t.Fatal(len(p.cache.held), len(p.cache.order), p.kept())
	}
}
