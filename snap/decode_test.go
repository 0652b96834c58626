package snap

import (
	"bytes"
	"math"
	"math/rand"
	"slices"
	"testing"

	"swath/api"
)

// wantDecoded wants of Decode these links and Virts, and of Encode these bytes again.
func wantDecoded(t testing.TB, b []byte, l []api.Link, x []api.Virt) {
	t.Helper()
	links, virts, e := Decode(b)
	if e != api.OK || len(links) != len(l) || len(virts) != len(x) {
		t.Fatalf("%v, %d links, %d Virts of % x", e, len(links), len(virts), short(b))
	}
	wantText(t, "the links", links, l)
	wantText(t, "the Virts", virts, x)
	if again, e := Encode(links, virts); e != api.OK || !bytes.Equal(again, b) {
		t.Errorf("%v, % x of % x", e, short(again), short(b))
	}
}

// wantNone wants of Decode ErrSnap alone.
func wantNone(t testing.TB, b []byte) {
	t.Helper()
	before := slices.Clone(b)
	if links, virts, e := Decode(b); e != api.ErrSnap || links != nil || virts != nil {
		t.Errorf("%v, %.300s, %.300s of % x", e, text(links), text(virts), short(b))
	}
	if !bytes.Equal(b, before) {
		t.Errorf("% x has become % x", short(before), short(b))
	}
}

// wantAsReckoned wants of Decode what the reckoning says, and tells whether bytes are any.
func wantAsReckoned(t testing.TB, b []byte) bool {
	t.Helper()
	l, x, e := decoded(b)
	if e != api.OK {
		wantNone(t, b)
		return false
	}
	wantDecoded(t, b, l, x)
	return true
}

// samples are bytes with something of each kind.
func samples(t testing.TB) [][]byte {
	t.Helper()
	var all [][]byte
	for _, s := range []struct {
		l []api.Link
		x []api.Virt
	}{
		{nil, nil},
		{[]api.Link{plain(-1)}, nil},
		{nil, []api.Virt{{}}},
		{[]api.Link{link(-1, 1, c(5), v(6), w(7))}, []api.Virt{virt(1, c(-5), con(null), con(ref(300)))}},
		{[]api.Link{link(-1, 1), link(300, 2, c(1<<40), v(1<<40)), link(1<<40-1, 1<<30, c(math.MinInt64), c(math.MaxInt64), c(0))}, []api.Virt{virt(0), virt(1<<40, w(1<<40)), virt(2, con(api.Value{Kind: 1 << 40, N: -1}))}},
		{[]api.Link{plain(-1, con(api.Value{Kind: -1}), con(api.Value{Kind: 64, N: -64}), con(api.Value{Kind: 1<<40 + 1, N: 3}))}, []api.Virt{virt(0, con(api.Value{Kind: -65, N: 1}), con(api.Value{Kind: math.MaxInt}), con(api.Value{Kind: math.MinInt, N: 2}))}},
	} {
		b, e := Encode(s.l, s.x)
		if e != api.OK {
			t.Fatal(e, s)
		}
		wantDecoded(t, b, s.l, s.x)
		all = append(all, b)
	}
	return all
}

func TestShorter(t *testing.T) { // P17.4
	for _, b := range samples(t) {
		for n := range b {
			// Behind the piece the rest still stands in memory.
			wantNone(t, b[:n])
			wantNone(t, slices.Clone(b[:n]))
		}
	}
	wantNone(t, nil)
	wantNone(t, []byte{})
}

func TestLonger(t *testing.T) { // P17.4
	for _, b := range samples(t) {
		for more := range 256 {
			wantNone(t, append(slices.Clone(b), byte(more)))
		}
		wantNone(t, append(slices.Clone(b), b...))
		wantNone(t, append(slices.Clone(b), make([]byte, 100)...))
	}
}

// TestMoreBytesThanNeedBe: each number once with a byte of nothing behind it, or with more of them.
func TestMoreBytesThanNeedBe(t *testing.T) { // P17.4
	for _, b := range samples(t) {
		for at, x := range b {
			if x >= 0x80 {
				continue
			}
			for _, more := range [][]byte{{x | 0x80, 0}, {x | 0x80, 0x80, 0}, {x | 0x80, 0x80, 0x80, 0x80, 0x80, 0x80, 0x80, 0x80, 0x80, 0}, append(append([]byte{x | 0x80}, bytes.Repeat([]byte{0x80}, 30)...), 0)} {
				wantNone(t, slices.Concat(b[:at], more, b[at+1:]))
			}
		}
	}
	for _, b := range [][]byte{{0x80, 0, 0}, {0, 0x80, 0}, {0x80, 0x80, 0, 0}, {0x80, 0, 0x80, 0}, {1, 0, 0, 0, 0, 1, 0, 0, 0x81, 0, 0}} {
		wantNone(t, b)
	}
}

// signless are numbers that may not stand without a sign: above 2^40, and of more than 64 bits.
var signless = [][]byte{
	{0x81, 0x80, 0x80, 0x80, 0x80, 0x20}, {0x80, 0x80, 0x80, 0x80, 0x80, 0x21}, {0x80, 0x80, 0x80, 0x80, 0x80, 0x40}, {0x80, 0x80, 0x80, 0x80, 0x80, 0x80, 1},
	{0xFF, 0xFF, 0xFF, 0xFF, 0xFF, 0xFF, 0xFF, 0xFF, 0x7F}, {0x80, 0x80, 0x80, 0x80, 0x80, 0x80, 0x80, 0x80, 0x80, 1}, {0x81, 0x80, 0x80, 0x80, 0x80, 0x80, 0x80, 0x80, 0x80, 1},
	{0xFF, 0xFF, 0xFF, 0xFF, 0xFF, 0xFF, 0xFF, 0xFF, 0xFF, 1},
}

// tooMany are numbers of more than 64 bits: what is left of them in 64 bits may be right.
var tooMany = [][]byte{
	{0x80, 0x80, 0x80, 0x80, 0x80, 0x80, 0x80, 0x80, 0x80, 2}, {0x81, 0x80, 0x80, 0x80, 0x80, 0x80, 0x80, 0x80, 0x80, 2}, {0xFF, 0xFF, 0xFF, 0xFF, 0xFF, 0xFF, 0xFF, 0xFF, 0xFF, 3},
	{0x80, 0x80, 0x80, 0x80, 0x80, 0x80, 0x80, 0x80, 0x80, 0x7E}, {0xFF, 0xFF, 0xFF, 0xFF, 0xFF, 0xFF, 0xFF, 0xFF, 0xFF, 0x7F}, {0x80, 0x80, 0x80, 0x80, 0x80, 0x80, 0x80, 0x80, 0x80, 0x80, 1},
	{0x81, 0x80, 0x80, 0x80, 0x80, 0x80, 0x80, 0x80, 0x80, 0x80, 0x40}, {0xFF, 0xFF, 0xFF, 0xFF, 0xFF, 0xFF, 0xFF, 0xFF, 0xFF, 0x81, 1}, append(bytes.Repeat([]byte{0x80}, 40), 1), append(bytes.Repeat([]byte{0xFF}, 100), 0x7F),
}

func TestTooGreatNumbers(t *testing.T) { // P17.4
	for _, f := range fields() {
		for _, n := range slices.Concat(signless, tooMany) {
			wantNone(t, slices.Concat(f.ahead, n, f.then))
		}
	}
}

// TestTooGreatSignedNumbers: with a sign just those of more than 64 bits are none.
func TestTooGreatSignedNumbers(t *testing.T) { // P17.4
	for _, f := range signedFields() {
		for _, n := range tooMany {
			wantNone(t, slices.Concat(f.ahead, n, f.then))
		}
		for _, n := range signless {
			if b := slices.Concat(f.ahead, n, f.then); !wantAsReckoned(t, b) {
				t.Errorf("%s: % x", f.name, b)
			}
		}
	}
}

// TestMoreBytesThanSignedNeedBe: no number with a sign has bytes of nothing behind its own.
func TestMoreBytesThanSignedNeedBe(t *testing.T) { // P17.4
	for _, f := range signedFields() {
		for _, n := range signedNumerals() {
			last := len(n.bytes) - 1
			own := slices.Concat(n.bytes[:last], []byte{n.bytes[last] | 0x80})
			for more := range 12 {
				wantNone(t, slices.Concat(f.ahead, own, bytes.Repeat([]byte{0x80}, more), []byte{0}, f.then))
			}
		}
	}
}

// TestKindsOfValuesRead: each byte, and each two, as the kind of a constant's value.
func TestKindsOfValuesRead(t *testing.T) { // P17.4
	for one := range 128 {
		kind := one / 2
		if one%2 == 1 {
			kind = -kind - 1
		}
		source := con(api.Value{Kind: kind, N: 3})
		wantDecoded(t, []byte{1, 0, 0, 0, 0, 1, 0, byte(one), 6, 0}, []api.Link{{Up: -1, Into: -1, Regs: list(source)}}, nil)
		wantDecoded(t, []byte{0, 1, 0, 1, 0, byte(one), 6}, nil, []api.Virt{virt(0, source)})
		for two := range 128 {
			if b := []byte{1, 0, 0, 0, 0, 1, 0, byte(one) | 0x80, byte(two), 6, 0}; wantAsReckoned(t, b) != (two > 0) {
				t.Errorf("% x", b)
			}
		}
	}
}

func TestNoKinds(t *testing.T) { // P17.4
	for _, ahead := range [][]byte{{1, 0, 0, 0, 0, 1}, {1, 0, 0, 0, 0, 2, 1, 0}, {0, 1, 0, 1}} {
		then := []byte{0}
		if ahead[0] == 0 {
			then = nil
		}
		for kind := 3; kind < 128; kind++ {
			for zeros := range 4 {
				wantNone(t, slices.Concat(ahead, []byte{byte(kind)}, make([]byte, zeros), then))
			}
		}
		for _, kind := range slices.Concat(signless, tooMany, [][]byte{{0x80, 1}, {0x81, 2}, {0x80, 0x80, 0x80, 0x80, 0x10}, {0x80, 0x80, 0x80, 0x80, 0x80, 0x20}}) {
			for zeros := range 4 {
				wantNone(t, slices.Concat(ahead, kind, make([]byte, zeros), then))
			}
		}
	}
}

// TestTooGreatCounts: counts of more than what follows, up to the greatest ones.
func TestTooGreatCounts(t *testing.T) { // P17.4, P1
	for _, ahead := range [][]byte{nil, {0}, {1, 0, 0, 0, 0}, {0, 1, 0}, {1, 0, 0, 0, 0, 0}} {
		for _, f := range numerals {
			for items := range 4 {
				for _, item := range [][]byte{{0}, {1, 0}, {2, 5}, {0, 0, 0}, {0, 0, 0, 0, 0}} {
					wantAsReckoned(t, slices.Concat(ahead, f.bytes, bytes.Repeat(item, items)))
				}
			}
			if f.n > 100 {
				wantNone(t, slices.Concat(ahead, f.bytes, make([]byte, min(f.n, 1000))))
			}
		}
		for _, n := range slices.Concat(signless, tooMany) {
			for zeros := range 20 {
				wantNone(t, slices.Concat(ahead, n, make([]byte, zeros)))
			}
		}
	}
	for _, b := range [][]byte{{1}, {1, 0}, {0, 1}, {1, 0, 0, 0, 0}, {1, 0, 0, 0, 0, 0}, {2, 0, 0, 0, 0, 0, 0}, {1, 0, 0, 0, 0, 1, 0}, {0, 1, 0, 1}, {0, 2, 0, 0}, {1, 0, 0, 0, 0, 2, 1, 0, 0}} {
		wantNone(t, b)
	}
}

// TestTooFewCounted: counts of less than what follows.
func TestTooFewCounted(t *testing.T) { // P17.4
	for _, b := range [][]byte{{0, 0, 0}, {0, 0, 0, 0, 0, 0, 0}, {1, 0, 0, 0, 0, 0, 0, 0}, {0, 1, 0, 0, 0}, {0, 1, 0, 0, 1, 0}, {0, 1, 0, 1, 1, 0, 1, 0}} {
		wantNone(t, b)
	}
}

// TestAllShortBytes has all bytes up to a length of four out of telling ones, and all of two bytes at all.
func TestAllShortBytes(t *testing.T) { // P17.4, P17.5
	for one := range 256 {
		wantAsReckoned(t, []byte{byte(one)})
		for two := range 256 {
			wantAsReckoned(t, []byte{byte(one), byte(two)})
		}
	}
	telling := []byte{0, 1, 2, 3, 0x7F, 0x80, 0x81, 0xFF}
	are := 0
	var b []byte
	var all func()
	all = func() {
		if wantAsReckoned(t, b) {
			are++
		}
		if len(b) == 5 {
			return
		}
		for _, x := range telling {
			b = append(b, x)
			all()
			b = b[:len(b)-1]
		}
	}
	all()
	if are < 10 {
		t.Error(are)
	}
}

// TestEachByteChanged: each byte of a sample is each other one, or two are swapped, or one is gone or there twice.
func TestEachByteChanged(t *testing.T) { // P17.4, P17.5
	for _, sample := range samples(t) {
		for at := range sample {
			b := slices.Clone(sample)
			for x := range 256 {
				b[at] = byte(x)
				wantAsReckoned(t, b)
			}
			wantAsReckoned(t, slices.Concat(sample[:at], sample[at+1:]))
			wantAsReckoned(t, slices.Concat(sample[:at], sample[at:at+1], sample[at:]))
			for other := range sample {
				b := slices.Clone(sample)
				b[at], b[other] = b[other], b[at]
				wantAsReckoned(t, b)
			}
		}
	}
}

// TestLongBytes: more bytes than Encode answers are none, whatever they would say.
func TestLongBytes(t *testing.T) { // P17.4, P17.5
	const most = 16777216
	b, e := Encode(wide(most-2), []api.Virt{{}})
	if e != api.OK || len(b) != most {
		t.Fatal(e, len(b))
	}
	if l, x, e := Decode(b); e != api.OK || len(l) == 0 || len(x) != 1 {
		t.Fatal(e, len(l), len(x))
	}
	b[most-3] = 2
	if l, x, e := Decode(append(b, 0, 0)); e != api.ErrSnap || l != nil || x != nil {
		t.Error(e, len(l), len(x))
	}
	if l, x, e := Decode(append(b, 0)); e != api.ErrSnap || l != nil || x != nil {
		t.Error(e, len(l), len(x))
	}
	if l, x, e := Decode(make([]byte, 2*most)); e != api.ErrSnap || l != nil || x != nil {
		t.Error(e, len(l), len(x))
	}
	if l, x, e := Decode(bytes.Repeat([]byte{0xFF}, 2*most)); e != api.ErrSnap || l != nil || x != nil {
		t.Error(e, len(l), len(x))
	}
}

func TestAnyBytes(t *testing.T) { // P17.4, P17.5, P1
	r := rand.New(rand.NewSource(171))
	are, none := 0, 0
	for range 300000 {
		b := make([]byte, r.Intn(24))
		for n := range b {
			switch r.Intn(10) {
			case 0:
				b[n] = byte(r.Intn(256))
			case 1:
				b[n] = byte(0x80 + r.Intn(3))
			default:
				b[n] = byte(r.Intn(3))
			}
		}
		if wantAsReckoned(t, b) {
			are++
		} else {
			none++
		}
	}
	if are < 200 || none < 1000 {
		t.Error(are, none)
	}
}
