package profile

import (
	"math/rand"
	"testing"

	"swath/api"
)

// chancer makes keys and calls by chance.
type chancer struct{ *rand.Rand }

// key is one of some that are much alike; the more kinds there are, the more keys.
func (m chancer) key(kinds int) api.Key {
	k := api.Key{Merge: m.Intn(kinds), N: m.Intn(2)}
	k.Greens[m.Intn(api.MaxGreens)] = api.Value{Kind: m.Intn(2), N: int64(m.Intn(2))}
	return k
}

// anyKey is of any numbers at all.
func (m chancer) anyKey() api.Key {
	number := func() int {
		if m.Intn(2) == 0 {
			return int(m.Uint64())
		}
		return edges[m.Intn(len(edges))]
	}
	k := api.Key{Merge: number(), N: number()}
	for n := range k.Greens {
		k.Greens[n] = api.Value{Kind: number(), N: int64(number())}
	}
	return k
}

// counted is one of the keys that are counted by now, so that all of them are hit again.
func (m chancer) counted(p pair, other api.Key) api.Key {
	if len(p.want.rows) == 0 {
		return other
	}
	return p.want.rows[m.Intn(len(p.want.rows))].key
}

// TestByChance has calls in any order of few keys, and of more than may be counted.
func TestByChance(t *testing.T) { // P14.2 to P14.5, P1
	m := chancer{rand.New(rand.NewSource(142))}
	full, trues, bans, thrown := 0, 0, 0, 0
	for n := range 120 {
		p := pairOf(t, m.Intn(8)-1)
		kinds := 1 + m.Intn(3)
		if n%10 == 0 {
			kinds = 30 + m.Intn(120)
		}
		for range 300 * (1 + kinds/8) {
			k := m.key(kinds)
			before, was := p.book.Len(), p.want.at(k)
			switch m.Intn(200) {
			case 0:
				p.ban(k)
				bans++
			case 1:
				p.look(k)
			default:
				if p.hit(k) {
					trues++
				}
				if before == api.MaxKeys && was < 0 && p.want.at(k) >= 0 {
					thrown++
				}
			}
		}
		p.lookAtAll()
		if p.book.Len() == api.MaxKeys {
			full++
		}
	}
	// The calls are such that of all there is much: else nothing is held against anything.
	if full < 5 || trues < 1000 || bans < 100 || thrown < 1000 {
		t.Error(full, trues, bans, thrown)
	}
}

// TestFullByChance has books that are full at all times, with keys of which some come back.
func TestFullByChance(t *testing.T) { // P14.3, P14.4
	m := chancer{rand.New(rand.NewSource(143))}
	for threshold := 1; threshold < 7; threshold++ {
		p := filled(t, threshold, func(int) int { return 1 + m.Intn(3) })
		for n := range 4000 {
			k := of(m.Intn(api.MaxKeys + 100))
			switch m.Intn(9) {
			case 0:
				k = m.anyKey()
			case 1, 2, 3:
				k = m.counted(p, k)
			}
			if n%500 == 0 {
				p.ban(m.counted(p, k))
			}
			p.hit(k)
		}
		p.lookAtAll()
	}
}

// TestEachThreshold has a key among others that come and go, which is hit so often that it is never the least.
func TestEachThreshold(t *testing.T) { // P14.5
	const threshold = 50
	b := New(threshold)
	hits := 0
	for n := range 20000 {
		b.Hit(of(n + 1))
		for range 1 + n%3 {
			hits++
			if b.Hit(of(0)) != (hits%threshold == 0) {
				t.Fatal("hit", hits)
			}
			// At 0 it would be the least: once more, ahead of the next one that comes.
			if hits%threshold <= 1 {
				for range 2 {
					hits++
					if b.Hit(of(0)) {
						t.Fatal("hit", hits)
					}
				}
			}
		}
	}
	if b.Len() != api.MaxKeys {
		t.Error(b.Len())
	}
}

func TestAnyNumbersAtAll(t *testing.T) { // P14.2 to P14.4, P1
	m := chancer{rand.New(rand.NewSource(144))}
	for range 200 {
		threshold := int(m.Uint64())
		if m.Intn(2) == 0 {
			threshold = edges[m.Intn(len(edges))]
		}
		p := pairOf(t, threshold)
		for range 60 {
			k := m.anyKey()
			switch m.Intn(4) {
			case 0:
				k = m.counted(p, k)
				p.ban(k)
			case 1:
				p.look(k)
			case 2:
				k = m.counted(p, k)
				p.hit(k)
			}
			p.hit(k)
		}
		p.lookAtAll()
	}
}

func FuzzBook(f *testing.F) {
	f.Add(2, []byte{1, 1, 2, 1, 201, 1, 1})
	f.Add(-1, []byte{0, 0, 255, 0})
	f.Fuzz(func(t *testing.T, threshold int, calls []byte) {
		p := pairOf(t, threshold)
		for _, c := range calls {
			k := api.Key{Merge: int(c & 3), N: int(c >> 2 & 1), Greens: [api.MaxGreens]api.Value{{}, {Kind: int(c >> 3 & 1), N: int64(c >> 4 & 1)}}}
			if c >= 200 {
				p.ban(k)
				continue
			}
			p.hit(k)
		}
		p.lookAtAll()
	})
}

func FuzzKeyOf(f *testing.F) {
	f.Add(0, []byte{})
	f.Add(-9, []byte{0, 5, 1, 0})
	f.Add(3, []byte{0, 1, 0, 2, 0, 3, 0, 4, 0, 5})
	f.Fuzz(func(t *testing.T, merge int, bytes []byte) {
		var greens []api.Value
		right := len(bytes)/2 <= api.MaxGreens
		want := api.Key{Merge: merge, N: len(bytes) / 2}
		for n := 0; n+1 < len(bytes); n += 2 {
			v := api.Value{Kind: int(int8(bytes[n])), N: int64(int8(bytes[n+1]))}
			greens = append(greens, v)
			right = right && (v.Kind == api.Int || v.Kind == api.Null)
			if n/2 < api.MaxGreens {
				want.Greens[n/2] = v
			}
		}
		if !right {
			want = api.Key{}
		}
		if k, is := KeyOf(merge, greens); k != want || is != right {
			t.Fatal(merge, greens, k, is)
		}
	})
}
