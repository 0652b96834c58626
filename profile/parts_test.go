package profile

import (
	"math"
	"testing"

	"swath/api"
)

// edges are numbers at the bounds of several kinds of them.
var edges = []int{0, 1, -1, 2, 3, 4, 5, 255, 256, api.MaxKeys, math.MaxInt32, math.MinInt32, 1 << 32, math.MaxInt, math.MinInt}

func num(n int64) api.Value { return api.Value{N: n} }

var null = api.Value{Kind: api.Null}

// of is a key without greens.
func of(merge int) api.Key { return api.Key{Merge: merge} }

// row is a key of a plain reckoning, with its count.
type row struct {
	key   api.Key
	count int
}

// reckoning is chapter 14's words as plainly as they stand: those that are counted, the longest there first; those that are banned.
type reckoning struct {
	threshold int
	rows      []row
	banned    []api.Key
}

// at is where a key stands among those that are counted; -1, if it doesn't.
func (r *reckoning) at(k api.Key) int {
	for n := range r.rows {
		if sameKey(r.rows[n].key, k) {
			return n
		}
	}
	return -1
}

// sameKey holds keys against each other field by field.
func sameKey(k, l api.Key) bool {
	same := k.Merge == l.Merge && k.N == l.N
	for n := range api.MaxGreens {
		same = same && k.Greens[n].Kind == l.Greens[n].Kind && k.Greens[n].N == l.Greens[n].N
	}
	return same
}

func (r *reckoning) isBanned(k api.Key) bool {
	for _, l := range r.banned {
		if sameKey(k, l) {
			return true
		}
	}
	return false
}

func (r *reckoning) hit(k api.Key) bool {
	if r.isBanned(k) {
		return false
	}
	n := r.at(k)
	if n < 0 {
		if len(r.rows) == api.MaxKeys {
			r.takeOut(r.doomed())
		}
		r.rows = append(r.rows, row{key: k})
		n = len(r.rows) - 1
	}
	r.rows[n].count++
	if r.rows[n].count < max(r.threshold, 1) {
		return false
	}
	r.rows[n].count = 0
	return true
}

// doomed is where the one stands that goes next: the first of those with the least count.
func (r *reckoning) doomed() int {
	n := 0
	for m := range r.rows {
		if r.rows[m].count < r.rows[n].count {
			n = m
		}
	}
	return n
}

func (r *reckoning) takeOut(n int) {
	rows := append([]row(nil), r.rows[:n]...)
	r.rows = append(rows, r.rows[n+1:]...)
}

func (r *reckoning) count(k api.Key) int {
	if n := r.at(k); n >= 0 {
		return r.rows[n].count
	}
	return 0
}

func (r *reckoning) ban(k api.Key) {
	if n := r.at(k); n >= 0 {
		r.takeOut(n)
	}
	if !r.isBanned(k) {
		r.banned = append(r.banned, k)
	}
}

// pair is a book and what it is held against.
type pair struct {
	testing.TB
	book *Book
	want *reckoning
}

func pairOf(t testing.TB, threshold int) pair {
	return pair{t, New(threshold), &reckoning{threshold: threshold}}
}

func (p pair) hit(k api.Key) bool {
	p.Helper()
	got, want := p.book.Hit(k), p.want.hit(k)
	if got != want {
		p.Fatalf("Hit of %v is %v with threshold %d", k, got, p.want.threshold)
	}
	p.look(k)
	return got
}

func (p pair) ban(k api.Key) {
	p.Helper()
	p.book.Ban(k)
	p.want.ban(k)
	p.look(k)
}

// look wants of a key what the reckoning says, and as many keys.
func (p pair) look(k api.Key) {
	p.Helper()
	if n := p.book.Count(k); n != p.want.count(k) {
		p.Fatalf("Count of %v is %d instead of %d", k, n, p.want.count(k))
	}
	if is := p.book.Banned(k); is != p.want.isBanned(k) {
		p.Fatalf("Banned of %v is %v", k, is)
	}
	if n := p.book.Len(); n != len(p.want.rows) {
		p.Fatalf("Len is %d instead of %d", n, len(p.want.rows))
	}
}

// lookAtAll looks at these keys and at all that are counted or banned.
func (p pair) lookAtAll(keys ...api.Key) {
	p.Helper()
	for _, k := range keys {
		p.look(k)
	}
	for _, r := range p.want.rows {
		p.look(r.key)
	}
	for _, k := range p.want.banned {
		p.look(k)
	}
}
