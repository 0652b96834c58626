package profile

import (
	"fmt"
	"testing"

	"swath/api"
)

// filled is a book with just as many keys as may be, of the merges from 0 on, each hit so many times.
func filled(t testing.TB, threshold int, hits func(n int) int) pair {
	p := pairOf(t, threshold)
	for n := range api.MaxKeys {
		for range hits(n) {
			p.hit(of(n))
		}
	}
	if p.book.Len() != api.MaxKeys {
		t.Fatal(p.book.Len())
	}
	return p
}

func once(int) int { return 1 }

// gone wants these merges, of those below a bound, to be counted no more and all others still to be.
func (p pair) gone(bound int, merges ...int) {
	p.Helper()
	there := map[int]int{}
	for _, r := range p.want.rows {
		there[r.key.Merge]++
	}
	for _, n := range merges {
		if there[n] != 0 {
			p.Fatal("the reckoning still has", n)
		}
		if c := p.book.Count(of(n)); c != 0 {
			p.Fatal(n, "has", c)
		}
	}
	for n := range bound {
		p.look(of(n))
	}
	if len(there)+len(merges) != bound {
		p.Fatal(bound, "keys;", len(there), "are there and", len(merges), "are gone")
	}
}

func TestAsManyAsMayBe(t *testing.T) { // P14.3, P14.4
	p := filled(t, 100, once)
	p.gone(api.MaxKeys)
	for n := range api.MaxKeys {
		p.hit(of(n))
	}
	p.gone(api.MaxKeys)
	if p.book.Len() != api.MaxKeys {
		t.Error(p.book.Len())
	}
}

// TestLongestThereGoes: of equal counts the one that has been there longest, again and again.
func TestLongestThereGoes(t *testing.T) { // P14.3
	p := filled(t, 100, once)
	var gone []int
	for n := range 50 {
		p.hit(of(api.MaxKeys + n))
		gone = append(gone, n)
		if p.book.Len() != api.MaxKeys || p.book.Count(of(api.MaxKeys+n)) != 1 {
			t.Fatal(n, p.book.Len())
		}
		p.gone(api.MaxKeys+n+1, gone...)
	}
}

// TestNotLastHit: that a key was hit lately doesn't count, but since when it is there.
func TestNotLastHit(t *testing.T) { // P14.3
	p := filled(t, 3, once)
	// 5 comes to the threshold and behind it once more: it has 1 again, as all others have.
	for range 3 {
		p.hit(of(5))
	}
	for n := range 6 {
		p.hit(of(api.MaxKeys + n))
	}
	p.gone(api.MaxKeys+6, 0, 1, 2, 3, 4, 5)
}

// TestLeastCountGoes has one key with the least count at each of several places.
func TestLeastCountGoes(t *testing.T) { // P14.3
	for _, least := range []int{0, 1, 7, 500, api.MaxKeys - 2, api.MaxKeys - 1} {
		p := filled(t, 100, func(n int) int {
			if n == least {
				return 1
			}
			return 2 + n%3
		})
		p.hit(of(api.MaxKeys))
		p.gone(api.MaxKeys+1, least)
		// The new one now has the least.
		p.hit(of(api.MaxKeys + 1))
		p.gone(api.MaxKeys+2, least, api.MaxKeys)
	}
}

// TestFirstOfTheLeast: there are several with the least count, and ahead of them others with more.
func TestFirstOfTheLeast(t *testing.T) { // P14.3
	p := filled(t, 100, func(n int) int { return []int{3, 2, 1, 2}[n%4] })
	var gone []int
	for n := range 40 {
		// Twice, so that it isn't the least itself.
		p.hit(of(api.MaxKeys + n))
		p.hit(of(api.MaxKeys + n))
		gone = append(gone, 4*n+2)
		p.gone(api.MaxKeys+n+1, gone...)
	}
}

// TestZeroAgainGoesFirst: a count that is 0 again is the least, however often the key was met.
func TestZeroAgainGoesFirst(t *testing.T) { // P14.3
	p := filled(t, 5, func(n int) int {
		if n == 700 || n == 300 {
			return 5
		}
		return 1 + n%4
	})
	if p.book.Count(of(300)) != 0 || p.book.Count(of(700)) != 0 {
		t.Fatal("not at 0 again")
	}
	p.hit(of(api.MaxKeys))
	p.gone(api.MaxKeys+1, 300)
	p.hit(of(api.MaxKeys + 1))
	p.gone(api.MaxKeys+2, 300, 700)
	p.hit(of(api.MaxKeys + 2))
	p.gone(api.MaxKeys+3, 300, 700, 0)
}

// TestThresholdOne: all counts are 0 at all times, so the longest there goes.
func TestThresholdOne(t *testing.T) { // P14.3, P14.5
	p := filled(t, 1, once)
	for n := range 30 {
		if !p.hit(of(api.MaxKeys + n)) {
			t.Fatal(n)
		}
	}
	var gone []int
	for n := range 30 {
		gone = append(gone, n)
	}
	p.gone(api.MaxKeys+30, gone...)
}

// TestAnew: a key that went begins from 0, and how long it has been there counts anew.
func TestAnew(t *testing.T) { // P14.3
	p := filled(t, 4, func(n int) int {
		if n == 0 {
			return 2
		}
		return 3
	})
	p.hit(of(api.MaxKeys)) // 0 goes, with 2
	p.hit(of(api.MaxKeys))
	p.hit(of(api.MaxKeys))
	p.gone(api.MaxKeys+1, 0)
	// From 0 on it takes four hits to the threshold; 1 goes for it.
	for n, want := range []bool{false, false, false, true, false, false, false} {
		if p.hit(of(0)) != want {
			t.Fatal("hit", n)
		}
	}
	p.gone(api.MaxKeys+1, 1)
	// Now all have 3, and 0 is the one that came last: all others go ahead of it.
	for n := 2; n <= api.MaxKeys; n++ {
		k := of(-n)
		for range 3 {
			p.hit(k)
		}
		if p.book.Count(of(n)) != 0 || p.book.Count(of(0)) != 3 {
			t.Fatal(n, p.book.Count(of(n)), p.book.Count(of(0)))
		}
	}
	p.hit(of(api.MaxKeys + 1))
	if p.book.Count(of(0)) != 0 || p.book.Count(of(-2)) != 3 {
		t.Error("0 is still there")
	}
	p.lookAtAll()
}

// TestNoneGoes: a hit of a key that is counted or banned, and what only asks or bans, throws none out.
func TestNoneGoes(t *testing.T) { // P14.3, P14.4
	p := filled(t, 3, once)
	p.ban(of(-1))
	for range 5 {
		p.hit(of(-1))
		p.hit(of(999))
		p.look(of(-2))
		p.ban(of(-3))
	}
	p.gone(api.MaxKeys)
}

// TestRoomByBan: a key that is banned makes room for another, and keys that are banned take none.
func TestRoomByBan(t *testing.T) { // P14.3, P14.4
	p := filled(t, 3, once)
	for n := range 2000 {
		p.ban(of(-1 - n))
	}
	if p.book.Len() != api.MaxKeys {
		t.Fatal(p.book.Len())
	}
	p.ban(of(500))
	if p.book.Len() != api.MaxKeys-1 {
		t.Fatal(p.book.Len())
	}
	p.hit(of(api.MaxKeys))
	p.gone(api.MaxKeys+1, 500)
	p.hit(of(api.MaxKeys + 1))
	p.gone(api.MaxKeys+2, 500, 0)
	for n := range 2000 {
		if k := of(-1 - n); !p.book.Banned(k) || p.hit(k) {
			t.Fatal(k)
		}
	}
	// A key that is no more counted may be banned all the same.
	p.ban(of(0))
	p.hit(of(0))
	p.gone(api.MaxKeys+2, 500, 0)
}

// TestAllBannedAndFilledAnew has all keys go by bans, and others come.
func TestAllBannedAndFilledAnew(t *testing.T) { // P14.4
	p := filled(t, 2, once)
	for n := range api.MaxKeys {
		p.ban(of(n))
		if p.book.Len() != api.MaxKeys-1-n {
			t.Fatal(n, p.book.Len())
		}
	}
	for n := range api.MaxKeys + 1 {
		p.hit(of(n % api.MaxKeys))
		p.hit(of(-1 - n))
	}
	if p.book.Len() != api.MaxKeys || p.book.Count(of(-1)) != 0 || p.book.Count(of(-2)) != 1 {
		t.Error(p.book.Len())
	}
	p.lookAtAll()
}

// TestSameEachTime: which one goes doesn't hang on how a map is gone through.
func TestSameEachTime(t *testing.T) { // P3
	var first string
	for n := range 10 {
		p := filled(t, 7, func(n int) int { return 1 + n*n%11 })
		for k := range 200 {
			p.hit(of(api.MaxKeys + k))
			p.hit(of(k * 3 % 1100))
		}
		var counts []int
		for k := range api.MaxKeys + 200 {
			counts = append(counts, p.book.Count(of(k)))
		}
		text := fmt.Sprint(counts)
		if n == 0 {
			first = text
		}
		if text != first {
			t.Fatal("other keys are gone the time", n)
		}
	}
}

func TestLeast(t *testing.T) {
	order := func(a, b int) int { return a - b }
	if k := least(map[string]int{}, order); k != "" {
		t.Error(k)
	}
	if k := least(map[string]int{"a": 5}, order); k != "a" {
		t.Error(k)
	}
	for range 100 {
		if k := least(map[string]int{"a": 5, "b": -7, "c": 0, "d": 9}, order); k != "b" {
			t.Error(k)
		}
	}
	if k := least(map[int]int{3: 1, 4: 2, 5: 3}, func(a, b int) int { return b - a }); k != 5 {
		t.Error(k)
	}
}
