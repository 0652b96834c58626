package profile

import (
	"fmt"
	"math"
	"testing"

	"swath/api"
)

func TestExample(t *testing.T) { // the chapter's example
	b := New(3)
	k := of(0)
	for n, want := range []bool{false, false, true, false} {
		if b.Hit(k) != want {
			t.Error("hit", n)
		}
	}
}

// wantNothing wants a book that counts nothing and keeps nothing, whatever is asked of it.
func wantNothing(t *testing.T, b *Book) {
	t.Helper()
	keys := []api.Key{{}, of(1), {Merge: -1, N: 9, Greens: [api.MaxGreens]api.Value{{Kind: 7, N: 5}}}}
	for range 3 {
		for _, k := range keys {
			for range 3 {
				if b.Hit(k) || b.Count(k) != 0 || b.Banned(k) || b.Len() != 0 {
					t.Fatal(k, "is counted")
				}
			}
			b.Ban(k)
			if b.Hit(k) || b.Count(k) != 0 || b.Banned(k) || b.Len() != 0 {
				t.Fatal(k, "is banned")
			}
		}
	}
}

func TestNoBook(t *testing.T) { // P14.2, P1
	wantNothing(t, nil)
	wantNothing(t, &Book{})
	wantNothing(t, new(Book))
	var b Book
	wantNothing(t, &b)
}

func TestNewBook(t *testing.T) { // P14.2
	for _, threshold := range edges {
		b := New(threshold)
		if b == nil || b.Len() != 0 {
			t.Fatal(threshold)
		}
		for _, k := range []api.Key{{}, of(1), of(-1)} {
			if b.Count(k) != 0 || b.Banned(k) || b.Len() != 0 {
				t.Fatal(threshold, k)
			}
		}
	}
}

// TestThresholds has hits up to the threshold, at it, and behind it, several times over.
func TestThresholds(t *testing.T) { // P14.2, P14.3, P14.5
	for _, threshold := range []int{math.MinInt, math.MinInt32, -2, -1, 0, 1, 2, 3, 4, 7, 64, 255, 256, 257, 1000, 70000} {
		each := max(threshold, 1)
		b := New(threshold)
		for n := 1; n <= 3*each+2; n++ {
			if is := b.Hit(of(8)); is != (n%each == 0) {
				t.Fatal("threshold", threshold, "hit", n, is)
			}
			if c := b.Count(of(8)); c != n%each {
				t.Fatal("threshold", threshold, "hit", n, "count", c)
			}
			if b.Len() != 1 {
				t.Fatal("a key whose count is 0 again stays counted:", threshold, n, b.Len())
			}
		}
	}
}

func TestGreatThresholds(t *testing.T) { // P14.2, P14.3
	for _, threshold := range []int{math.MaxInt32, 1 << 31, 1 << 32, 1<<32 + 1, math.MaxInt - 1, math.MaxInt} {
		b := New(threshold)
		for n := 1; n <= 5000; n++ {
			if b.Hit(of(8)) || b.Count(of(8)) != n {
				t.Fatal(threshold, n, b.Count(of(8)))
			}
		}
		// As if it had been hit so often that two are left.
		b.counts[of(8)] = tally{count: threshold - 2, since: 1}
		if b.Hit(of(8)) || b.Count(of(8)) != threshold-1 || !b.Hit(of(8)) || b.Count(of(8)) != 0 {
			t.Fatal(threshold, b.Count(of(8)))
		}
	}
}

// TestInTurn has several keys hit in turn, each by another rhythm: none counts for another.
func TestInTurn(t *testing.T) { // P14.3, P14.5
	for threshold := 1; threshold <= 6; threshold++ {
		p := pairOf(t, threshold)
		hits := make([]int, 7)
		for n := range 2000 {
			for k := range hits {
				if n%(k+1) != 0 {
					continue
				}
				hits[k]++
				if p.hit(of(k)) != (hits[k]%threshold == 0) {
					t.Fatal(threshold, k, hits[k])
				}
			}
			p.lookAtAll(of(-1), of(len(hits)))
		}
	}
}

// others are keys that differ from one in a single field.
func others(k api.Key) []api.Key {
	var l []api.Key
	put := func(change func(k *api.Key)) {
		other := k
		change(&other)
		l = append(l, other)
	}
	put(func(k *api.Key) { k.Merge++ })
	put(func(k *api.Key) { k.Merge = -k.Merge })
	put(func(k *api.Key) { k.Merge ^= 1 << 32 })
	put(func(k *api.Key) { k.N++ })
	put(func(k *api.Key) { k.N-- })
	for n := range api.MaxGreens {
		put(func(k *api.Key) { k.Greens[n].N++ })
		put(func(k *api.Key) { k.Greens[n].N ^= 1 << 32 })
		put(func(k *api.Key) { k.Greens[n].N ^= math.MinInt64 })
		put(func(k *api.Key) { k.Greens[n].Kind++ })
		put(func(k *api.Key) { k.Greens[n].Kind-- })
	}
	return l
}

// TestKeysThatDiffer: each is counted, and banned, for itself.
func TestKeysThatDiffer(t *testing.T) { // P14.3, P14.4
	for _, k := range []api.Key{
		{Merge: 3, N: 2, Greens: [api.MaxGreens]api.Value{num(4), null}},
		{Merge: 7, N: 4, Greens: [api.MaxGreens]api.Value{num(1), num(2), num(-3), num(math.MaxInt64)}},
		{Merge: -5, N: 0},
	} {
		b := New(3)
		b.Hit(k)
		b.Hit(k)
		l := others(k)
		for n, other := range l {
			if b.Count(other) != 0 || b.Hit(other) || b.Count(other) != 1 || b.Len() != n+2 {
				t.Error(other, "is taken for", k)
			}
		}
		b.Ban(k)
		for _, other := range l {
			if b.Banned(other) || b.Count(other) != 1 || b.Hit(other) || !b.Hit(other) {
				t.Error(other, "is banned with", k)
			}
		}
		if !b.Banned(k) || b.Len() != len(l) {
			t.Error(k)
		}
	}
}

// TestOddKeys: keys that KeyOf answers none of are counted as any other one.
func TestOddKeys(t *testing.T) { // P14.3, P1
	p := pairOf(t, 2)
	for _, n := range edges {
		k := api.Key{Merge: n, N: n, Greens: [api.MaxGreens]api.Value{{Kind: n, N: int64(n)}, {}, {Kind: api.Ref}, {Kind: n}}}
		if p.hit(k) || !p.hit(k) || p.hit(k) {
			t.Error(k)
		}
		p.ban(k)
		p.hit(k)
		p.lookAtAll()
	}
}

func TestCount(t *testing.T) { // P14.4
	b := New(5)
	a, c, d := of(1), of(2), of(3)
	b.Hit(a)
	b.Hit(a)
	b.Hit(c)
	if b.Count(a) != 2 || b.Count(c) != 1 || b.Count(d) != 0 {
		t.Error(b.Count(a), b.Count(c), b.Count(d))
	}
	// Who asks doesn't count, nor has what is asked for counted.
	for range 10 {
		b.Count(a)
		b.Count(d)
		b.Banned(d)
	}
	if b.Count(a) != 2 || b.Len() != 2 {
		t.Error(b.Count(a), b.Len())
	}
	b.Ban(a)
	if b.Count(a) != 0 || b.Count(c) != 1 {
		t.Error(b.Count(a), b.Count(c))
	}
}

func TestBanOfACountedKey(t *testing.T) { // P14.3, P14.4
	for hits := range 8 {
		p := pairOf(t, 3)
		for range hits {
			p.hit(of(1))
		}
		p.hit(of(2))
		p.ban(of(1))
		if !p.book.Banned(of(1)) || p.book.Count(of(1)) != 0 || p.book.Len() != 1 || p.book.Banned(of(2)) {
			t.Fatal(hits)
		}
		for range 10 {
			if p.hit(of(1)) || p.book.Len() != 1 || p.book.Count(of(2)) != 1 {
				t.Fatal("a key that is banned counts behind", hits)
			}
		}
	}
}

func TestBanOfOthers(t *testing.T) { // P14.3, P14.4
	p := pairOf(t, 1)
	p.ban(of(1))
	if p.book.Len() != 0 || !p.book.Banned(of(1)) || p.book.Banned(of(0)) || p.hit(of(1)) {
		t.Error("a key that isn't counted")
	}
	p.hit(of(2))
	for range 3 {
		p.ban(of(1))
		if !p.book.Banned(of(1)) || p.hit(of(1)) || p.book.Len() != 1 {
			t.Error("a key that is banned already")
		}
	}
	for n := 3; n < 20; n++ {
		p.hit(of(n))
		p.ban(of(n))
		p.lookAtAll(of(n + 1))
	}
	if p.book.Len() != 1 {
		t.Error(p.book.Len())
	}
}

// TestAsIfItHadNeverBeen has the same hits with and without a key that is banned in between.
func TestAsIfItHadNeverBeen(t *testing.T) { // P14.4
	for when := range 30 {
		a, b := New(4), New(4)
		for n := range 60 {
			if n == when {
				a.Ban(of(9))
			}
			a.Hit(of(9))
			k := of(n % 5)
			if x, y := a.Hit(k), b.Hit(k); x != y || a.Count(k) != b.Count(k) {
				t.Fatal(when, n, x, y)
			}
		}
		if a.Len() != b.Len() || a.Count(of(9)) != 0 {
			t.Fatal(when, a.Len(), b.Len())
		}
	}
}

// TestBooksApart: what one book counts and bans counts for no other.
func TestBooksApart(t *testing.T) { // P14.2, P3
	a, b := New(2), New(2)
	a.Hit(of(1))
	a.Ban(of(2))
	if b.Count(of(1)) != 0 || b.Banned(of(2)) || b.Len() != 0 || b.Hit(of(1)) || b.Hit(of(2)) || !a.Hit(of(1)) {
		t.Error("they count together")
	}
}

// TestMadeKeys has keys of KeyOf in a book.
func TestMadeKeys(t *testing.T) { // P14.1, P14.3
	b := New(2)
	greens := [][]api.Value{nil, {num(0)}, {null}, {num(0), num(0)}, {num(0), null}, {null, num(0)}, {num(5), num(6), num(7), num(8)}}
	for merge := range 3 {
		for _, l := range greens {
			k, is := KeyOf(merge, l)
			if !is || b.Hit(k) {
				t.Error(merge, l)
			}
		}
	}
	if b.Len() != 3*len(greens) {
		t.Error(b.Len())
	}
	for merge := range 3 {
		for _, l := range greens {
			if k, _ := KeyOf(merge, l); !b.Hit(k) {
				t.Error(fmt.Sprint(merge, l))
			}
		}
	}
}
