package cache

import (
	"fmt"
	"math"
	"slices"
	"testing"

	"swath/api"
)

// edges are numbers at the bounds of several kinds of them.
var edges = []int{0, 1, -1, 2, 3, -3, 255, 256, api.MaxTraces - 1, api.MaxTraces, api.MaxTraces + 1, math.MaxInt32, math.MinInt32, 1 << 32, math.MaxInt, math.MinInt, math.MinInt + 1}

// key is one without greens.
func key(merge int) api.Key { return api.Key{Merge: merge} }

// keys are those of these merges.
func keys(merges ...int) []api.Key {
	var l []api.Key
	for _, n := range merges {
		l = append(l, key(n))
	}
	return l
}

// empty is a trace with a key alone.
func empty(merge int) api.Trace { return api.Trace{Key: key(merge)} }

// rich is a trace with that key that has something everywhere, all told apart by the mark. It need be no right one.
func rich(k api.Key, mark int) api.Trace {
	src := func(n int) api.Src {
		return api.Src{Kind: n % 4, Val: api.Value{Kind: n % 3, N: int64(mark + n)}, N: mark - n}
	}
	return api.Trace{
		Key: k,
		Fn:  mark,
		Pc:  -mark,
		Ins: []int{mark, mark + 1, mark},
		Ops: []api.Op{
			{Op: mark, Args: []api.Src{src(0), src(1)}, K: int64(mark), C: mark, Snap: -1},
			{Op: mark + 1, Args: []api.Src{src(2)}},
			{Op: mark + 2},
		},
		Links: []api.Link{
			{Up: -1, Fn: mark, Pc: 3, Into: -mark, Regs: []api.Src{src(3), src(4), src(5)}},
			{Up: mark, Regs: []api.Src{src(6)}},
		},
		Virts: []api.Virt{{Rec: mark, Cells: []api.Src{src(7), src(8)}}, {Rec: -mark}},
		Back:  []api.Src{src(9), src(10)},
	}
}

// text is a trace as a text: no two that differ by more than a nil list instead of an empty one have the same.
func text(t api.Trace) string { return fmt.Sprintf("%+v", t) }

// row is a trace of a plain reckoning.
type row struct {
	id   int
	key  api.Key
	text string
}

// note is what was noted of a trace and an operation.
type note struct{ id, op, n int }

// reckoning is chapter 15's words as plainly as they stand: those that are held, the longest there first, and whatever was ever noted. As no id comes twice, a note counts while its traces are held.
type reckoning struct {
	limit int
	picks []int
	ids   int
	rows  []row
	fails []note
	links []note
	most  int
}

// atKey is where the trace with that key stands; -1, if there is none.
func (r *reckoning) atKey(k api.Key) int {
	return slices.IndexFunc(r.rows, func(w row) bool { return sameKey(w.key, k) })
}

// atID is where the trace with that id stands; -1, if there is none.
func (r *reckoning) atID(id int) int {
	return slices.IndexFunc(r.rows, func(w row) bool { return w.id == id })
}

// sameKey holds keys against each other field by field.
func sameKey(k, l api.Key) bool {
	same := k.Merge == l.Merge && k.N == l.N
	for n := range api.MaxGreens {
		same = same && k.Greens[n].Kind == l.Greens[n].Kind && k.Greens[n].N == l.Greens[n].N
	}
	return same
}

func (r *reckoning) takeOut(n int) {
	rows := append([]row(nil), r.rows[:n]...)
	r.rows = append(rows, r.rows[n+1:]...)
}

func (r *reckoning) put(t api.Trace) int {
	if r.limit == 0 {
		return -1
	}
	r.drop(t.Key)
	if len(r.rows) == r.limit {
		pick := 0
		if len(r.picks) > 0 {
			pick, r.picks = r.picks[0], r.picks[1:]
		}
		r.takeOut((pick%len(r.rows) + len(r.rows)) % len(r.rows))
	}
	r.ids++
	r.rows = append(r.rows, row{r.ids, t.Key, text(t)})
	r.most = max(r.most, len(r.rows))
	return r.ids
}

func (r *reckoning) drop(k api.Key) bool {
	n := r.atKey(k)
	if n < 0 {
		return false
	}
	r.takeOut(n)
	return true
}

func (r *reckoning) fail(id, op int) int {
	if r.atID(id) < 0 {
		return 0
	}
	for n := range r.fails {
		if r.fails[n].id == id && r.fails[n].op == op {
			r.fails[n].n++
			return r.fails[n].n
		}
	}
	r.fails = append(r.fails, note{id, op, 1})
	return 1
}

func (r *reckoning) link(id, op, to int) api.Errno {
	if r.atID(id) < 0 || r.atID(to) < 0 {
		return api.ErrNone
	}
	if op < 0 {
		return api.ErrRange
	}
	r.links = append(r.links, note{id, op, to})
	return api.OK
}

// linked goes by the note that came last: in its place the earlier ones count no more, even when it is gone.
func (r *reckoning) linked(id, op int) (int, bool) {
	for n := len(r.links) - 1; n >= 0; n-- {
		l := r.links[n]
		if l.id == id && l.op == op {
			if r.atID(id) < 0 || r.atID(l.n) < 0 {
				return 0, false
			}
			return l.n, true
		}
	}
	return 0, false
}

// pair is a cache and what it is held against.
type pair struct {
	testing.TB
	cache *Cache
	want  *reckoning
}

// pairOf takes limits that may be, and others.
func pairOf(t testing.TB, limit int, picks ...int) pair {
	want := &reckoning{limit: limit, picks: append([]int(nil), picks...)}
	if limit < 0 {
		want.limit = 0
	}
	if limit > api.MaxTraces {
		want.limit = api.MaxTraces
	}
	return pair{t, New(limit, picks), want}
}

func (p pair) put(t api.Trace) int {
	p.Helper()
	got, want := p.cache.Put(t), p.want.put(t)
	if got != want {
		p.Fatalf("Put of %v is %d instead of %d", t.Key, got, want)
	}
	p.look()
	return got
}

func (p pair) drop(k api.Key) bool {
	p.Helper()
	got, want := p.cache.Drop(k), p.want.drop(k)
	if got != want {
		p.Fatalf("Drop of %v is %v", k, got)
	}
	p.look()
	return got
}

func (p pair) fail(id, op int) int {
	p.Helper()
	got, want := p.cache.Fail(id, op), p.want.fail(id, op)
	if got != want {
		p.Fatalf("Fail of %d at %d is %d instead of %d", id, op, got, want)
	}
	p.look()
	return got
}

func (p pair) link(id, op, to int) api.Errno {
	p.Helper()
	got, want := p.cache.Link(id, op, to), p.want.link(id, op, to)
	if got != want {
		p.Fatalf("Link of %d at %d to %d is %d instead of %d", id, op, to, got, want)
	}
	p.linked(id, op)
	p.look()
	return got
}

func (p pair) linked(id, op int) (int, bool) {
	p.Helper()
	got, is := p.cache.Linked(id, op)
	if want, there := p.want.linked(id, op); got != want || is != there {
		p.Fatalf("Linked of %d at %d is %d, %v instead of %d, %v", id, op, got, is, want, there)
	}
	return got, is
}

func (p pair) get(k api.Key) int {
	p.Helper()
	t, id, is := p.cache.Get(k)
	want := row{text: text(api.Trace{})}
	n := p.want.atKey(k)
	if n >= 0 {
		want = p.want.rows[n]
	}
	if is != (n >= 0) || id != want.id || text(t) != want.text {
		p.Fatalf("Get of %v is %s, %d, %v instead of %s, %d", k, text(t), id, is, want.text, want.id)
	}
	return id
}

// look wants the keys that the reckoning says, in its order, and as many at most.
func (p pair) look() {
	p.Helper()
	got := p.cache.Keys()
	if len(got) != len(p.want.rows) || len(got) > p.want.limit {
		p.Fatalf("%d keys instead of %d of %d", len(got), len(p.want.rows), p.want.limit)
	}
	for n, k := range got {
		if !sameKey(k, p.want.rows[n].key) {
			p.Fatalf("key %d is %v instead of %v", n, k, p.want.rows[n].key)
		}
	}
	if n := p.cache.Most(); n != p.want.most {
		p.Fatalf("Most is %d instead of %d", n, p.want.most)
	}
}

// lookAtAll wants all traces and all that was ever linked to be as the reckoning says, and those keys.
func (p pair) lookAtAll(keys ...api.Key) {
	p.Helper()
	p.look()
	for _, k := range keys {
		p.get(k)
	}
	for _, r := range p.want.rows {
		p.get(r.key)
	}
	for _, l := range p.want.links {
		p.linked(l.id, l.op)
	}
}

// holds wants just these merges to be held, the longest there first.
func (p pair) holds(merges ...int) {
	p.Helper()
	if got := p.cache.Keys(); !slices.Equal(got, keys(merges...)) {
		p.Fatal("instead of", merges, "are held", got)
	}
	p.lookAtAll()
}

// kept is how much a cache keeps of what was noted.
func (p pair) kept() int { return len(p.cache.fails) + len(p.cache.links) }
