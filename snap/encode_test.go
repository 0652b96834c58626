package snap

import (
	"bytes"
	"math"
	"slices"
	"testing"

	"swath/api"
)

// wantBytes wants of Encode these bytes, and of Decode what they were made of.
func wantBytes(t testing.TB, l []api.Link, x []api.Virt, want ...byte) {
	t.Helper()
	got := wantEncoded(t, l, x)
	if !bytes.Equal(got, want) {
		t.Errorf("% x instead of % x of %.300s %.300s", short(got), short(want), text(l), text(x))
	}
}

// wantEncoded wants of Encode what the reckoning says, of Decode what that was made of (P17.5), and that nothing that is handed in changes.
func wantEncoded(t testing.TB, l []api.Link, x []api.Virt) []byte {
	t.Helper()
	links, virts := copiedLinks(l), copiedVirts(x)
	got, e := Encode(l, x)
	want, wantE := encoded(l, x)
	if e != wantE || !bytes.Equal(got, want) {
		t.Fatalf("% x, %v instead of % x, %v of %.300s %.300s", short(got), e, short(want), wantE, text(l), text(x))
	}
	wantText(t, "the links that were handed in", l, links)
	wantText(t, "the Virts that were handed in", x, virts)
	if e == api.OK {
		before := slices.Clone(got)
		wantDecoded(t, got, l, x)
		if !bytes.Equal(got, before) {
			t.Errorf("% x has become % x", short(before), short(got))
		}
	}
	return got
}

// wantSnap wants of Encode an error alone.
func wantSnap(t testing.TB, want api.Errno, l []api.Link, x []api.Virt) {
	t.Helper()
	if b, e := Encode(l, x); e != want || b != nil {
		t.Errorf("%d bytes, %v instead of %v of %.300s %.300s", len(b), e, want, text(l), text(x))
	}
}

func TestNoLinks(t *testing.T) { // P17.4, P3
	wantBytes(t, nil, nil, 0, 0)
	wantBytes(t, []api.Link{}, []api.Virt{}, 0, 0)
	wantBytes(t, []api.Link{{Up: -1, Into: -1}}, nil, 1, 0, 0, 0, 0, 0, 0)
	wantBytes(t, []api.Link{{Up: -1, Into: -1, Regs: list()}}, []api.Virt{}, 1, 0, 0, 0, 0, 0, 0)
	wantBytes(t, nil, []api.Virt{{}}, 0, 1, 0, 0)
	wantBytes(t, nil, []api.Virt{{Cells: list()}}, 0, 1, 0, 0)
}

func TestLinks(t *testing.T) { // P17.4
	wantBytes(t, []api.Link{{Up: 5, Fn: 6, Pc: 7, Into: 8}}, nil, 1, 6, 6, 7, 9, 0, 0)
	wantBytes(t, []api.Link{{Up: -1, Fn: 1, Pc: 2, Into: -1, Regs: list(v(3))}, {Up: 0, Fn: 4, Pc: 5, Into: 0, Regs: list(w(6), c(7))}}, nil,
		2, 0, 1, 2, 0, 1, 1, 3, 1, 4, 5, 1, 2, 2, 6, 0, 0, 14, 0)
	wantBytes(t, nil, []api.Virt{{Rec: 9, Cells: list(c(-1), v(2))}, {Rec: 1}, {Rec: 0, Cells: list(w(3))}}, 0, 3, 9, 2, 0, 0, 1, 1, 2, 1, 0, 0, 1, 2, 3)
	wantBytes(t, []api.Link{{Up: 300, Fn: 1}}, []api.Virt{{Rec: 2, Cells: list(con(null))}}, 1, 0xAD, 2, 1, 0, 1, 0, 1, 2, 1, 0, 2, 0)
}

// TestKinds: each kind of source and of value.
func TestKinds(t *testing.T) { // P17.4
	for _, s := range []struct {
		source api.Src
		want   []byte
	}{
		{api.Src{}, []byte{0, 0, 0}}, {c(5), []byte{0, 0, 10}}, {c(-5), []byte{0, 0, 9}}, {con(null), []byte{0, 2, 0}}, {con(api.Value{Kind: api.Null, N: -2}), []byte{0, 2, 3}},
		{con(ref(0)), []byte{0, 4, 0}}, {con(ref(64)), []byte{0, 4, 0x80, 1}}, {con(ref(-1)), []byte{0, 4, 1}}, {con(api.Value{Kind: 3, N: 4}), []byte{0, 6, 8}}, {con(api.Value{Kind: 200}), []byte{0, 0x90, 3, 0}},
		{con(api.Value{Kind: -1}), []byte{0, 1, 0}}, {con(api.Value{Kind: -1, N: 3}), []byte{0, 1, 6}}, {con(api.Value{Kind: -2, N: -2}), []byte{0, 3, 3}}, {con(api.Value{Kind: -200, N: 1}), []byte{0, 0x8F, 3, 2}},
		{v(0), []byte{1, 0}}, {v(5), []byte{1, 5}}, {v(128), []byte{1, 0x80, 1}}, {w(0), []byte{2, 0}}, {w(7), []byte{2, 7}}, {w(300), []byte{2, 0xAC, 2}},
	} {
		wantBytes(t, []api.Link{{Up: -1, Into: -1, Regs: list(s.source)}}, nil, slices.Concat([]byte{1, 0, 0, 0, 0, 1}, s.want, []byte{0})...)
		wantBytes(t, nil, []api.Virt{{Cells: list(s.source, s.source)}}, slices.Concat([]byte{0, 1, 0, 2}, s.want, s.want)...)
	}
}

// numeral is a number and its bytes.
type numeral struct {
	n     int
	bytes []byte
}

var numerals = []numeral{
	{0, []byte{0}}, {1, []byte{1}}, {127, []byte{0x7F}}, {128, []byte{0x80, 1}}, {129, []byte{0x81, 1}}, {255, []byte{0xFF, 1}}, {256, []byte{0x80, 2}}, {16383, []byte{0xFF, 0x7F}},
	{16384, []byte{0x80, 0x80, 1}}, {16385, []byte{0x81, 0x80, 1}}, {1<<21 - 1, []byte{0xFF, 0xFF, 0x7F}}, {1 << 21, []byte{0x80, 0x80, 0x80, 1}}, {1 << 32, []byte{0x80, 0x80, 0x80, 0x80, 0x10}},
	{1<<35 - 1, []byte{0xFF, 0xFF, 0xFF, 0xFF, 0x7F}}, {1 << 35, []byte{0x80, 0x80, 0x80, 0x80, 0x80, 1}}, {1<<40 - 1, []byte{0xFF, 0xFF, 0xFF, 0xFF, 0xFF, 0x1F}}, {1 << 40, []byte{0x80, 0x80, 0x80, 0x80, 0x80, 0x20}},
}

// field is one that is a number from 0 on in bytes: where it stands, and the bytes about it.
type field struct {
	name        string
	links       func(n int) []api.Link
	virts       func(n int) []api.Virt
	ahead, then []byte
	// less is how much less the field is than its number in bytes.
	less int
}

func linkWith(set func(x *api.Link, n int)) func(n int) []api.Link {
	return func(n int) []api.Link {
		x := api.Link{Up: -1, Into: -1}
		set(&x, n)
		return []api.Link{x}
	}
}

func virtWith(set func(x *api.Virt, n int)) func(n int) []api.Virt {
	return func(n int) []api.Virt {
		var x api.Virt
		set(&x, n)
		return []api.Virt{x}
	}
}

func noLinks(int) []api.Link { return nil }
func noVirts(int) []api.Virt { return nil }

func fields() []field {
	return []field{
		{"Up", linkWith(func(x *api.Link, n int) { x.Up = n }), noVirts, []byte{1}, []byte{0, 0, 0, 0, 0}, 1},
		{"Fn", linkWith(func(x *api.Link, n int) { x.Fn = n }), noVirts, []byte{1, 0}, []byte{0, 0, 0, 0}, 0},
		{"Pc", linkWith(func(x *api.Link, n int) { x.Pc = n }), noVirts, []byte{1, 0, 0}, []byte{0, 0, 0}, 0},
		{"Into", linkWith(func(x *api.Link, n int) { x.Into = n }), noVirts, []byte{1, 0, 0, 0}, []byte{0, 0}, 1},
		{"a register's variable", linkWith(func(x *api.Link, n int) { x.Regs = list(v(n)) }), noVirts, []byte{1, 0, 0, 0, 0, 1, 1}, []byte{0}, 0},
		{"a register's Virt", linkWith(func(x *api.Link, n int) { x.Regs = list(w(n)) }), noVirts, []byte{1, 0, 0, 0, 0, 1, 2}, []byte{0}, 0},
		{"Rec", noLinks, virtWith(func(x *api.Virt, n int) { x.Rec = n }), []byte{0, 1}, []byte{0}, 0},
		{"a cell's variable", noLinks, virtWith(func(x *api.Virt, n int) { x.Cells = list(v(n)) }), []byte{0, 1, 0, 1, 1}, nil, 0},
		{"a cell's Virt", noLinks, virtWith(func(x *api.Virt, n int) { x.Cells = list(v(7), w(n)) }), []byte{0, 1, 0, 2, 1, 7, 2}, nil, 0},
	}
}

// signedFields are the two numbers of a value that have a sign, each at more than one place.
func signedFields() []field {
	kind := func(n int) api.Src { return con(api.Value{Kind: n, N: 1}) }
	num := func(n int) api.Src { return con(api.Value{Kind: 64, N: int64(n)}) }
	return []field{
		{"the kind of a register's value", linkWith(func(x *api.Link, n int) { x.Regs = list(kind(n)) }), noVirts, []byte{1, 0, 0, 0, 0, 1, 0}, []byte{2, 0}, 0},
		{"a register's number", linkWith(func(x *api.Link, n int) { x.Regs = list(num(n)) }), noVirts, []byte{1, 0, 0, 0, 0, 1, 0, 0x80, 1}, []byte{0}, 0},
		{"the kind of the second register's value", linkWith(func(x *api.Link, n int) { x.Regs = list(v(7), kind(n), w(5)) }), noVirts, []byte{1, 0, 0, 0, 0, 3, 1, 7, 0}, []byte{2, 2, 5, 0}, 0},
		{"the kind of a cell's value", noLinks, virtWith(func(x *api.Virt, n int) { x.Cells = list(kind(n), v(7)) }), []byte{0, 1, 0, 2, 0}, []byte{2, 1, 7}, 0},
		{"a cell's number", noLinks, virtWith(func(x *api.Virt, n int) { x.Cells = list(num(n), v(7)) }), []byte{0, 1, 0, 2, 0, 0x80, 1}, []byte{1, 7}, 0},
		{"the kind of the second cell's value", noLinks, virtWith(func(x *api.Virt, n int) { x.Rec, x.Cells = 3, list(c(-1), kind(n)) }), []byte{0, 1, 3, 2, 0, 0, 1, 0}, []byte{2}, 0},
	}
}

func TestNumbers(t *testing.T) { // P17.4, P17.5
	for _, f := range fields() {
		for _, n := range numerals {
			wantBytes(t, f.links(n.n-f.less), f.virts(n.n-f.less), slices.Concat(f.ahead, n.bytes, f.then)...)
		}
		for _, n := range []int{-1, -2, -127, -128, -1 << 32, 1 - 1<<40, -1 << 40, math.MinInt32, math.MinInt, math.MinInt + 1, 1<<40 + 1, 1<<40 + 2, 1 << 41, 1 << 48, 1 << 62, math.MaxInt - 1, math.MaxInt} {
			// The least number less 1 would be the greatest one.
			if n > math.MinInt || f.less == 0 {
				wantSnap(t, api.ErrSnap, f.links(n-f.less), f.virts(n-f.less))
			}
		}
		wantSnap(t, api.ErrSnap, f.links(math.MinInt), f.virts(math.MinInt))
		wantSnap(t, api.ErrSnap, f.links(math.MaxInt), f.virts(math.MaxInt))
		if t.Failed() {
			t.Fatal(f.name)
		}
	}
}

// TestUpAndInto: both ends of what they may be.
func TestUpAndInto(t *testing.T) { // P17.4
	upper := []byte{0x80, 0x80, 0x80, 0x80, 0x80, 0x20}
	wantBytes(t, []api.Link{{Up: -1, Into: -1}}, nil, 1, 0, 0, 0, 0, 0, 0)
	wantBytes(t, []api.Link{{Up: 1<<40 - 1, Into: 1<<40 - 1}}, nil, slices.Concat([]byte{1}, upper, []byte{0, 0}, upper, []byte{0, 0})...)
	for _, n := range []int{-2, -3, math.MinInt, 1 << 40, 1<<40 + 1, math.MaxInt} {
		wantSnap(t, api.ErrSnap, []api.Link{{Up: n}}, nil)
		wantSnap(t, api.ErrSnap, []api.Link{{Into: n}}, nil)
		wantSnap(t, api.ErrSnap, []api.Link{{}, {}, {Up: n}}, []api.Virt{{}})
	}
}

// signedNumerals are numbers with a sign and their bytes.
func signedNumerals() []numeral {
	full := bytes.Repeat([]byte{0xFF}, 8)
	return []numeral{
		{0, []byte{0}}, {-1, []byte{1}}, {1, []byte{2}}, {-2, []byte{3}}, {2, []byte{4}}, {63, []byte{0x7E}}, {-64, []byte{0x7F}}, {64, []byte{0x80, 1}}, {-65, []byte{0x81, 1}},
		{8191, []byte{0xFE, 0x7F}}, {-8192, []byte{0xFF, 0x7F}}, {8192, []byte{0x80, 0x80, 1}}, {-8193, []byte{0x81, 0x80, 1}}, {1 << 39, []byte{0x80, 0x80, 0x80, 0x80, 0x80, 0x20}},
		{1 << 40, []byte{0x80, 0x80, 0x80, 0x80, 0x80, 0x40}}, {1<<40 + 1, []byte{0x82, 0x80, 0x80, 0x80, 0x80, 0x40}}, {-1 << 40, []byte{0xFF, 0xFF, 0xFF, 0xFF, 0xFF, 0x3F}},
		{-1<<40 - 1, []byte{0x81, 0x80, 0x80, 0x80, 0x80, 0x40}}, {1 << 41, []byte{0x80, 0x80, 0x80, 0x80, 0x80, 0x80, 1}},
		{1 << 62, []byte{0x80, 0x80, 0x80, 0x80, 0x80, 0x80, 0x80, 0x80, 0x80, 1}}, {1<<62 - 1, slices.Concat([]byte{0xFE}, full[:7], []byte{0x7F})}, {-1 << 62, slices.Concat([]byte{0xFF}, full[:7], []byte{0x7F})},
		{math.MaxInt, slices.Concat([]byte{0xFE}, full, []byte{1})}, {math.MinInt, slices.Concat([]byte{0xFF}, full, []byte{1})},
		{math.MaxInt - 1, slices.Concat([]byte{0xFC}, full, []byte{1})}, {math.MinInt + 1, slices.Concat([]byte{0xFD}, full, []byte{1})},
	}
}

func TestSigned(t *testing.T) { // P17.4, P17.5
	for _, f := range signedFields() {
		for _, n := range signedNumerals() {
			wantBytes(t, f.links(n.n), f.virts(n.n), slices.Concat(f.ahead, n.bytes, f.then)...)
		}
		for _, n := range edges {
			wantEncoded(t, f.links(n), f.virts(n))
		}
		if t.Failed() {
			t.Fatal(f.name)
		}
	}
}

// TestValues: each Kind with each number; there are no bounds for either.
func TestValues(t *testing.T) { // P17.4, P17.5
	for _, kind := range signedNumerals() {
		for _, n := range signedNumerals() {
			source := con(api.Value{Kind: kind.n, N: int64(n.n)})
			wantBytes(t, []api.Link{{Up: -1, Into: -1, Regs: list(source)}}, nil, slices.Concat([]byte{1, 0, 0, 0, 0, 1, 0}, kind.bytes, n.bytes, []byte{0})...)
			wantBytes(t, nil, []api.Virt{{Cells: list(source)}}, slices.Concat([]byte{0, 1, 0, 1, 0}, kind.bytes, n.bytes)...)
		}
	}
}

// TestCounts: as many links, registers, Virts and cells as take one byte more.
func TestCounts(t *testing.T) { // P17.4, P17.5
	for _, n := range numerals {
		if n.n > 20000 {
			continue
		}
		links := slices.Repeat([]api.Link{{Up: -1, Into: -1}}, n.n)
		wantBytes(t, links, nil, slices.Concat(n.bytes, make([]byte, 5*n.n), []byte{0})...)
		virts := make([]api.Virt, n.n)
		wantBytes(t, nil, virts, slices.Concat([]byte{0}, n.bytes, make([]byte, 2*n.n))...)
		sources := make([]api.Src, n.n)
		wantBytes(t, []api.Link{{Up: -1, Into: -1, Regs: sources}}, nil, slices.Concat([]byte{1, 0, 0, 0, 0}, n.bytes, make([]byte, 3*n.n), []byte{0})...)
		wantBytes(t, nil, []api.Virt{{Cells: sources}}, slices.Concat([]byte{0, 1, 0}, n.bytes, make([]byte, 3*n.n))...)
	}
}

// places are links and Virts with a source at each place that there is.
func places(s api.Src, do func(l []api.Link, x []api.Virt)) {
	for at := range 8 {
		l := []api.Link{{Regs: list(c(1), v(2))}, {Up: 0, Regs: list(w(0), con(null))}}
		x := []api.Virt{{Rec: 1, Cells: list(c(1), v(2))}, {Rec: 2, Cells: list(w(1), c(3))}}
		if at < 4 {
			l[at/2].Regs[at%2] = s
		} else {
			x[at/2-2].Cells[at%2] = s
		}
		do(l, x)
	}
}

func TestWrongSources(t *testing.T) { // P17.4
	var wrong []api.Src
	for _, kind := range noKinds {
		wrong = append(wrong, api.Src{Kind: kind}, api.Src{Kind: kind, N: 1}, api.Src{Kind: kind, Val: num(1)})
	}
	for _, n := range edges {
		if n != 0 {
			wrong = append(wrong, api.Src{N: n}, api.Src{Val: null, N: n}, api.Src{Val: num(5), N: n})
			for _, kind := range []int{api.SrcVar, api.SrcVirt} {
				wrong = append(wrong, api.Src{Kind: kind, Val: num(int64(n))}, api.Src{Kind: kind, Val: api.Value{Kind: n}}, api.Src{Kind: kind, Val: api.Value{Kind: n, N: int64(n)}, N: 1})
			}
		}
		if n < 0 || n > 1<<40 {
			wrong = append(wrong, v(n), w(n))
		}
	}
	for _, s := range wrong {
		places(s, func(l []api.Link, x []api.Virt) {
			wantSnap(t, api.ErrSnap, l, x)
			wantEncoded(t, l, x)
		})
	}
}

// TestAnyValues: a constant's value may be any, whatever its kind; there is no error of it.
func TestAnyValues(t *testing.T) { // P17.4, P17.5
	all := slices.Clone(values)
	for _, n := range edges {
		all = append(all, api.Value{Kind: n}, api.Value{Kind: n, N: 1}, api.Value{Kind: n, N: int64(n)})
	}
	for _, value := range all {
		places(con(value), func(l []api.Link, x []api.Virt) {
			if b := wantEncoded(t, l, x); b == nil {
				t.Errorf("no bytes of %v", value)
			}
		})
	}
}

// TestWrongFields: each field of each of some links and Virts.
func TestWrongFields(t *testing.T) { // P17.4
	for at := range 3 {
		for _, n := range edges {
			for _, set := range []func(l *api.Link, x *api.Virt){
				func(l *api.Link, x *api.Virt) { l.Up = n },
				func(l *api.Link, x *api.Virt) { l.Fn = n },
				func(l *api.Link, x *api.Virt) { l.Pc = n },
				func(l *api.Link, x *api.Virt) { l.Into = n },
				func(l *api.Link, x *api.Virt) { x.Rec = n },
			} {
				l, x := []api.Link{link(-1, 1, c(4)), link(0, 2), link(0, 3)}, []api.Virt{virt(1, v(5)), virt(2), virt(3)}
				set(&l[at], &x[at])
				wantEncoded(t, l, x)
			}
		}
	}
}

// wide is links that take so many bytes without Virts, for numbers about 2^24. Most of them share one list of registers.
func wide(all int) []api.Link {
	const many, each = 139, 4 + 2 + 12*10000
	l := slices.Repeat([]api.Link{{Up: -1, Into: -1, Regs: slices.Repeat(list(c(math.MinInt64)), 10000)}}, many)
	// Three bytes for how many links there are, one for how many Virts; the others take 5 bytes each, some of them one more for Up.
	rest := all - 3 - 1 - many*each
	for n := range rest / 5 {
		x := api.Link{Up: -1, Into: -1}
		if n < rest%5 {
			x.Up = 127
		}
		l = append(l, x)
	}
	return l
}

func TestLong(t *testing.T) { // P17.4, P17.5
	const most = 16777216
	for less := range 7 {
		l := wide(most - less)
		b, e := Encode(l, nil)
		if e != api.OK || len(b) != most-less {
			t.Fatal(less, len(b), e)
		}
		links, virts, e := Decode(b)
		if e != api.OK || len(virts) != 0 || !slices.EqualFunc(links, l, sameLink) {
			t.Fatal(less, len(links), len(virts), e)
		}
	}
	for more := 1; more < 7; more++ {
		wantSnap(t, api.ErrLong, wide(most+more), nil)
	}
	wantSnap(t, api.ErrLong, wide(most), []api.Virt{{}})
	wantSnap(t, api.ErrLong, wide(most-1), []api.Virt{{}})
	if b, e := Encode(wide(most-2), []api.Virt{{}}); e != api.OK || len(b) != most {
		t.Error(len(b), e)
	}
	wantSnap(t, api.ErrLong, slices.Repeat(wide(most)[:139], 20), nil)
	wantSnap(t, api.ErrLong, nil, slices.Repeat([]api.Virt{{Cells: wide(most)[0].Regs}}, 140))
}

// TestLongKinds: the bytes of the kinds of values count as others do.
func TestLongKinds(t *testing.T) { // P17.4
	// Each of these takes 21 bytes; what is ahead of them 6, and behind them 16 are left of 2^24.
	cells := slices.Repeat(list(con(api.Value{Kind: math.MinInt, N: math.MinInt64})), 798914)
	cells = append(cells, c(0), c(0), c(0), c(0), v(0), v(0))
	b, e := Encode(nil, []api.Virt{{Cells: cells}})
	if e != api.OK || len(b) != 16777216 {
		t.Fatal(e, len(b))
	}
	if l, x, e := Decode(b); e != api.OK || len(l) != 0 || len(x) != 1 || !slices.EqualFunc(x[0].Cells, cells, sameSource) {
		t.Error(e, len(l), len(x))
	}
	cells[798914].Val.Kind = 63
	if b, e := Encode(nil, []api.Virt{{Cells: cells}}); e != api.OK || len(b) != 16777216 {
		t.Error(e, len(b))
	}
	for _, kind := range []int{64, -65, 1 << 40, math.MaxInt} {
		cells[798914].Val.Kind = kind
		wantSnap(t, api.ErrLong, nil, []api.Virt{{Cells: cells}})
	}
}

// TestLongAndWrong: ErrSnap is named first, so it is the answer also if what is wrong stands behind the last byte that may be.
func TestLongAndWrong(t *testing.T) { // P4, P17.4
	const most = 16777216
	for _, more := range []int{-9, 1} {
		l := wide(most + more)
		wantSnap(t, api.ErrSnap, append(slices.Clone(l), api.Link{Pc: -1}), nil)
		wantSnap(t, api.ErrSnap, append(slices.Clone(l), api.Link{Up: -2}), nil)
		wantSnap(t, api.ErrSnap, append([]api.Link{{Fn: 1<<40 + 1}}, l...), nil)
		wantSnap(t, api.ErrSnap, l, []api.Virt{{Rec: -1}})
		wantSnap(t, api.ErrSnap, l, []api.Virt{{Cells: list(v(1), api.Src{N: 1})}})
		wantSnap(t, api.ErrSnap, l, []api.Virt{{Cells: list(v(1), api.Src{Kind: 3})}})
	}
}
