package cache

import (
	"math/rand"
	"testing"

	"swath/api"
)

// chancer makes caches, traces and calls by chance.
type chancer struct{ *rand.Rand }

// number is any at all.
func (m chancer) number() int {
	switch m.Intn(4) {
	case 0:
		return int(m.Uint64())
	case 1:
		return edges[m.Intn(len(edges))]
	}
	return m.Intn(12) - 3
}

func (m chancer) numbers(most int) []int {
	var l []int
	for range m.Intn(most + 1) {
		l = append(l, m.number())
	}
	return l
}

// key is one of some that are much alike; the more kinds there are, the more keys.
func (m chancer) key(kinds int) api.Key {
	k := api.Key{Merge: m.Intn(kinds), N: m.Intn(2)}
	if m.Intn(2) == 0 {
		k.Greens[m.Intn(api.MaxGreens)] = api.Value{Kind: m.Intn(2), N: int64(m.Intn(2))}
	}
	return k
}

// anyKey is of any numbers at all.
func (m chancer) anyKey() api.Key {
	k := api.Key{Merge: m.number(), N: m.number()}
	for n := range k.Greens {
		k.Greens[n] = api.Value{Kind: m.number(), N: int64(m.number())}
	}
	return k
}

func (m chancer) sources() []api.Src {
	var l []api.Src
	for range m.Intn(3) {
		l = append(l, api.Src{Kind: m.number(), Val: api.Value{Kind: m.number(), N: int64(m.number())}, N: m.number()})
	}
	return l
}

// trace is of any numbers at all, with that key.
func (m chancer) trace(k api.Key) api.Trace {
	t := api.Trace{Key: k, Fn: m.number(), Pc: m.number(), Ins: m.numbers(3), Back: m.sources()}
	for range m.Intn(3) {
		t.Ops = append(t.Ops, api.Op{Op: m.number(), Args: m.sources(), K: int64(m.number()), C: m.number(), Snap: m.number()})
	}
	for range m.Intn(3) {
		t.Links = append(t.Links, api.Link{Up: m.number(), Fn: m.number(), Pc: m.number(), Into: m.number(), Regs: m.sources()})
	}
	for range m.Intn(3) {
		t.Virts = append(t.Virts, api.Virt{Rec: m.number(), Cells: m.sources()})
	}
	return t
}

// id is of a trace that is held, mostly; else one that went, or any number.
func (m chancer) id(p pair) int {
	switch n := m.Intn(20); {
	case n == 0:
		return m.number()
	case n < 3 || len(p.want.rows) == 0:
		return m.Intn(p.want.ids + 3)
	}
	return p.want.rows[m.Intn(len(p.want.rows))].id
}

// op is a small one, mostly, so that the same comes again.
func (m chancer) op() int {
	if m.Intn(10) == 0 {
		return m.number()
	}
	return m.Intn(3)
}

// place is a trace and an operation: one of the last that are noted, else of many traces hardly one would be met there twice, or any.
func (m chancer) place(p pair, notes []note) (int, int) {
	if m.Intn(2) == 0 || len(notes) == 0 {
		return m.id(p), m.op()
	}
	n := notes[len(notes)-1-m.Intn(min(len(notes), 5))]
	return n.id, n.op
}

// held is the key of a trace that is held, if there is one.
func (m chancer) held(p pair, other api.Key) api.Key {
	if len(p.want.rows) == 0 {
		return other
	}
	return p.want.rows[m.Intn(len(p.want.rows))].key
}

// tally is how often calls went in each way that is to be met.
type tally struct{ anew, gone, full, dropped, missed, failed, linked, refused, led int }

// call does one call by chance, of those keys.
func (m chancer) call(p pair, k api.Key, did *tally) {
	switch m.Intn(8) {
	case 0, 1:
		m.callPut(p, k, did)
	case 2:
		if p.drop(k) {
			did.dropped++
		} else {
			did.missed++
		}
	case 3:
		id, op := m.place(p, p.want.fails)
		if p.fail(id, op) > 1 {
			did.failed++
		}
	case 4, 5:
		id, op := m.place(p, p.want.links)
		if p.link(id, op, m.id(p)) == api.OK {
			did.linked++
		} else {
			did.refused++
		}
	case 6:
		if _, is := p.linked(m.place(p, p.want.links)); is {
			did.led++
		}
	default:
		p.get(k)
	}
}

func (m chancer) callPut(p pair, k api.Key, did *tally) {
	at, before := p.want.atKey(k), len(p.want.rows)
	p.put(m.trace(k))
	switch {
	case at >= 0 && before == p.want.limit:
		did.full++
	case at >= 0:
		did.anew++
	case before > 0 && before == p.want.limit:
		did.gone++
	}
}

// wantMuch wants all ways to have been gone often enough: else nothing is held against anything.
func (d tally) wantMuch(t *testing.T, much int) {
	t.Helper()
	if min(d.anew, d.gone, d.full, d.dropped, d.missed, d.failed, d.linked, d.refused, d.led) < much {
		t.Errorf("%+v", d)
	}
}

// TestByChance has calls in any order, of few keys and few traces.
func TestByChance(t *testing.T) { // P15.1 to P15.7, P1
	m := chancer{rand.New(rand.NewSource(152))}
	var did tally
	for range 1500 {
		limit := m.Intn(8)
		if m.Intn(10) == 0 {
			limit = m.number()
		}
		p := pairOf(t, limit, m.numbers(30)...)
		kinds := 1 + m.Intn(4)
		for range 120 {
			k := m.key(kinds)
			if m.Intn(4) == 0 {
				k = m.held(p, k)
			}
			m.call(p, k, &did)
		}
		p.lookAtAll(key(0), key(1), m.anyKey())
	}
	did.wantMuch(t, 1000)
}

// TestAnyNumbersAtAll has keys of any numbers.
func TestAnyNumbersAtAll(t *testing.T) { // P15.1 to P15.7, P1
	m := chancer{rand.New(rand.NewSource(153))}
	var did tally
	for range 300 {
		p := pairOf(t, m.number(), m.numbers(50)...)
		for range 200 {
			k := m.anyKey()
			if m.Intn(2) == 0 {
				k = m.held(p, k)
			}
			m.call(p, k, &did)
		}
		p.lookAtAll(m.anyKey())
	}
	did.wantMuch(t, 100)
}

// TestManyByChance has caches of great limits that are full nearly all the time.
func TestManyByChance(t *testing.T) { // P15.1 to P15.7
	m := chancer{rand.New(rand.NewSource(154))}
	var did tally
	for _, limit := range []int{60, 300, api.MaxTraces - 1, api.MaxTraces, api.MaxTraces + 1, 5000} {
		p := pairOf(t, limit, m.numbers(300)...)
		for n := range p.want.limit {
			p.put(empty(n))
		}
		for range 1500 {
			k := key(m.Intn(p.want.limit * 5 / 4))
			if m.Intn(3) == 0 {
				k = m.held(p, k)
			}
			m.call(p, k, &did)
			// So that it is full again behind most drops.
			m.callPut(p, key(m.Intn(p.want.limit*2)), &did)
		}
		p.lookAtAll(key(-1))
	}
	did.wantMuch(t, 200)
}

// TestSameEachTime: the same calls are answered the same, however maps are gone through.
func TestSameEachTime(t *testing.T) { // P3
	var first []api.Key
	for n := range 10 {
		m := chancer{rand.New(rand.NewSource(155))}
		var did tally
		p := pairOf(t, 20, m.numbers(400)...)
		for range 600 {
			m.call(p, m.key(9), &did)
		}
		now := p.cache.Keys()
		if n == 0 {
			first = now
		}
		if len(now) != len(first) || len(now) < 5 {
			t.Fatal(len(now), len(first))
		}
		for at := range now {
			if now[at] != first[at] {
				t.Fatal("the time", n, "key", at, "is another")
			}
		}
	}
}

func FuzzCache(f *testing.F) {
	f.Add(2, 1, []byte{0, 1, 0, 2, 0, 3, 1, 1, 2, 5, 3, 7, 4, 9, 5, 2})
	f.Add(-1, 0, []byte{0, 0, 3, 0})
	f.Add(1, -5, []byte{0, 0, 0, 1, 0, 0, 3, 17, 0, 0, 5, 17})
	f.Fuzz(func(t *testing.T, limit, pick int, calls []byte) {
		p := pairOf(t, limit, pick, -pick, pick^85, pick/3)
		for n := 0; n+1 < len(calls); n += 2 {
			b := int(calls[n+1])
			k := api.Key{Merge: b & 7, N: b >> 3 & 1, Greens: [api.MaxGreens]api.Value{{}, {Kind: b >> 4 & 1, N: int64(b >> 5 & 1)}}}
			id, op, to := b&15, b>>4&3-1, b>>6+p.want.ids-2
			switch calls[n] % 6 {
			case 0:
				p.put(rich(k, b))
			case 1:
				p.drop(k)
			case 2:
				p.fail(id, op)
			case 3:
				p.link(id, op, to)
			case 4:
				p.link(to, op, id)
			default:
				p.linked(to, op)
				p.get(k)
			}
		}
		p.lookAtAll()
	})
}
