package cache

import (
	"math"
	"slices"
	"testing"

	"swath/api"
)

func TestIDs(t *testing.T) { // P15.2
	p := pairOf(t, 3)
	for n := 1; n < 40; n++ {
		if id := p.put(empty(n % 5)); id != n {
			t.Fatal(id, "instead of", n)
		}
		if n%4 == 0 {
			p.drop(key(n % 5))
		}
		if n%7 == 0 {
			p.drop(key(n%5 + 1))
		}
	}
	// Ids go on when all have gone.
	for n := range 5 {
		p.drop(key(n))
	}
	p.holds()
	if id := p.put(empty(1)); id != 40 {
		t.Fatal(id)
	}
}

// TestSameKeyBelowLimit: the trace with the same key goes, and the new one is the last.
func TestSameKeyBelowLimit(t *testing.T) { // P15.2
	p := pairOf(t, 4, 0, 0, 0)
	for n := 1; n <= 3; n++ {
		p.put(empty(n))
	}
	if id := p.put(rich(key(1), 8)); id != 4 {
		t.Fatal(id)
	}
	p.holds(2, 3, 1)
	p.put(rich(key(1), 9))
	p.holds(2, 3, 1)
	p.put(rich(key(3), 10))
	p.holds(2, 1, 3)
	if p.cache.Most() != 3 {
		t.Fatal("most", p.cache.Most())
	}
	for n, id := range map[int]int{1: 5, 2: 2, 3: 6} {
		if got := p.get(key(n)); got != id {
			t.Fatal(n, "has", got)
		}
	}
	if got, _, _ := p.cache.Get(key(1)); text(got) != text(rich(key(1), 9)) {
		t.Fatal(text(got))
	}
}

// TestSameKeyAtLimit: there is room when the trace with the same key has gone, so no other goes and no pick is used.
func TestSameKeyAtLimit(t *testing.T) { // P15.2
	p := pairOf(t, 3, 2, 1)
	for n := 1; n <= 3; n++ {
		p.put(empty(n))
	}
	for range 3 {
		p.put(empty(2))
	}
	p.holds(1, 3, 2)
	p.put(empty(1))
	p.put(empty(1))
	p.holds(3, 2, 1)
	// Now 2, the first of the picks: the last one.
	p.put(empty(4))
	p.holds(3, 2, 4)
	p.put(empty(3))
	p.holds(2, 4, 3)
	p.put(empty(5))
	p.holds(2, 3, 5)
	p.put(empty(6))
	p.holds(3, 5, 6)
}

func TestSameKeyOfOne(t *testing.T) { // P15.2
	p := pairOf(t, 1, 5, -5)
	for n := 1; n <= 5; n++ {
		if id := p.put(rich(key(7), n)); id != n {
			t.Fatal(id)
		}
		p.holds(7)
	}
	if p.cache.Most() != 1 {
		t.Fatal(p.cache.Most())
	}
	p.put(empty(8))
	p.holds(8)
}

// TestEachPick has each pick at each limit: which one goes is a rest of a division.
func TestEachPick(t *testing.T) { // P15.2
	for _, limit := range []int{1, 2, 3, 4, 5, 7, 8, 10} {
		for pick := -3*limit - 1; pick <= 3*limit+1; pick++ {
			wantGone(t, limit, pick, mod(pick, limit))
		}
		for _, pick := range edges {
			wantGone(t, limit, pick, mod(pick, limit))
		}
	}
	// Worked out by hand, too.
	wantGone(t, 3, math.MinInt, 1) // -(2^63) is -2 of 3
	wantGone(t, 3, math.MaxInt, 1) // 2^63 - 1 is 1 of 3
	wantGone(t, 5, -1, 4)
	wantGone(t, 5, -5, 0)
	wantGone(t, 5, -6, 4)
	wantGone(t, 5, 5, 0)
	wantGone(t, 5, 13, 3)
	wantGone(t, 10, math.MinInt, 2)
	wantGone(t, 8, math.MinInt, 0)
	wantGone(t, api.MaxTraces, -1, api.MaxTraces-1)
	wantGone(t, api.MaxTraces, api.MaxTraces, 0)
	wantGone(t, api.MaxTraces, -api.MaxTraces, 0)
	wantGone(t, api.MaxTraces, math.MinInt, 192)
}

// mod counts up or down from 0 round a ring of so many: not by a division of such a number at once.
func mod(n, ring int) int {
	at := 0
	for bit := 63; bit >= 0; bit-- {
		at = (at + at) % ring
		if uint64(n)>>bit&1 == 1 {
			at++
		}
	}
	at %= ring
	if n < 0 {
		// Read as not negative it was 2^64 too much.
		two := 1 % ring
		for range 64 {
			two = two * 2 % ring
		}
		at = (at - two + ring) % ring
	}
	return at
}

// wantGone wants that pick to have the one at that place go.
func wantGone(t *testing.T, limit, pick, gone int) {
	t.Helper()
	c := New(limit, []int{pick})
	var want []api.Key
	for n := range limit {
		c.Put(empty(n))
		if n != gone {
			want = append(want, key(n))
		}
	}
	c.Put(empty(limit))
	want = append(want, key(limit))
	if got := c.Keys(); !slices.Equal(got, want) {
		t.Fatal("limit", limit, "pick", pick, "should have", gone, "go; there are", got)
	}
}

// TestPicksInTurn: each is used once, from the first one on, and 0 when they are used up.
func TestPicksInTurn(t *testing.T) { // P15.2
	p := pairOf(t, 3, 1, 2, 0, -1, -2, 4)
	for n := 1; n <= 3; n++ {
		p.put(empty(n))
	}
	for n, want := range [][]int{
		{1, 3, 4},  // 1: the second goes
		{1, 3, 5},  // 2: the third
		{3, 5, 6},  // 0: the first
		{3, 5, 7},  // -1: the last
		{3, 7, 8},  // -2: the one ahead of it
		{3, 8, 9},  // 4: the second
		{8, 9, 10}, // used up: the first from now on
		{9, 10, 11},
		{10, 11, 12},
	} {
		p.put(empty(4 + n))
		p.holds(want...)
	}
}

func TestNoPicks(t *testing.T) { // P15.2, P3
	behind := []int{1, 1, 1}
	for _, picks := range [][]int{nil, {}, make([]int, 0, 5), behind[:0]} {
		c := New(2, picks)
		for n := range 6 {
			c.Put(empty(n))
		}
		if k := c.Keys(); !slices.Equal(k, keys(4, 5)) {
			t.Fatal(picks, k)
		}
	}
}

// TestPicksBehindLength: what lies behind the length of the picks counts for nothing.
func TestPicksBehindLength(t *testing.T) { // P2, P15.2
	room := []int{1, 1, 1, 1}
	p := pairOf(t, 2, room[:1]...)
	for n := range 5 {
		p.put(empty(n))
	}
	p.holds(3, 4)
}

// TestPicksAreNotWasted: puts that have none go use none: below the limit, with a key that is held, or when one was dropped.
func TestPicksAreNotWasted(t *testing.T) { // P15.2
	p := pairOf(t, 3, 2, 1)
	for n := 1; n <= 3; n++ {
		p.put(empty(n))
	}
	for n := range 10 {
		p.put(empty(1 + n%3))
		p.drop(key(1 + n%2))
		p.put(empty(10 + n))
		p.drop(key(10 + n))
		p.put(empty(1 + n%2))
	}
	p.holds(3, 1, 2)
	p.put(empty(4))
	p.holds(3, 1, 4)
	p.put(empty(5))
	p.holds(3, 4, 5)
	p.put(empty(6))
	p.holds(4, 5, 6)
}

// TestManyPicks has more picks than any call uses up, all of them told apart by which one goes.
func TestManyPicks(t *testing.T) { // P15.2
	var picks []int
	for n := range 3000 {
		picks = append(picks, n*n*7919-n*5)
	}
	p := pairOf(t, 11, picks...)
	for n := range 3100 {
		p.put(empty(n))
	}
}

// TestLongestThereByPut: a key that is put anew has been there since then.
func TestLongestThereByPut(t *testing.T) { // P15.2, P15.5
	p := pairOf(t, 3)
	p.put(empty(1))
	p.put(empty(2))
	p.put(empty(3))
	p.put(empty(1))
	// That a trace is asked for, left or linked doesn't count.
	p.get(key(2))
	p.fail(2, 0)
	p.link(2, 1, 3)
	p.put(empty(4))
	p.holds(3, 1, 4)
	p.drop(key(3))
	p.put(empty(3))
	p.put(empty(5))
	p.holds(4, 3, 5)
}

// TestFullAtGreatestLimit has as many traces as may be held, and picks at all places.
func TestFullAtGreatestLimit(t *testing.T) { // P15.2, P15.7
	var picks []int
	for n := range 300 {
		picks = append(picks, n*n*n, -n, math.MinInt+n)
	}
	p := pairOf(t, math.MaxInt, picks...)
	for n := range api.MaxTraces + 1000 {
		p.put(empty(n))
	}
	for n := range 50 {
		p.put(empty(n * 37))
	}
	p.lookAtAll(key(-1))
}
