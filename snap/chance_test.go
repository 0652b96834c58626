package snap

import (
	"math/rand"
	"slices"
	"testing"

	"swath/api"
)

// chancer makes links, Virts and values by chance.
type chancer struct{ *rand.Rand }

func chancerOf(seed int64) chancer { return chancer{rand.New(rand.NewSource(seed))} }

// number is mostly a small one.
func (m chancer) number() int {
	switch m.Intn(12) {
	case 0:
		return edges[m.Intn(len(edges))]
	case 1:
		return int(m.Uint64())
	case 2:
		return int(m.Uint64() >> m.Intn(64))
	}
	return m.Intn(4)
}

func (m chancer) value() api.Value {
	if m.Intn(3) == 0 {
		return values[m.Intn(len(values))]
	}
	return num(int64(m.Uint64()) >> m.Intn(64))
}

// source is a right one of a trace with so many variables and Virts.
func (m chancer) source(vars, virts int) api.Src {
	kind := m.Intn(3)
	switch {
	case kind == 1 && vars > 0:
		return v(m.Intn(vars))
	case kind == 2 && virts > 0:
		return w(m.Intn(virts))
	}
	return con(m.value())
}

func (m chancer) sources(most, vars, virts int) []api.Src {
	l := make([]api.Src, m.Intn(most+1))
	for n := range l {
		l[n] = m.source(vars, virts)
	}
	return l
}

// whatever is a source of any numbers.
func (m chancer) whatever() api.Src {
	return api.Src{Kind: m.number(), Val: api.Value{Kind: m.number(), N: int64(m.number())}, N: m.number()}
}

// trace is one with right links and Virts.
func (m chancer) trace(vars int) api.Trace {
	x := api.Trace{Links: make([]api.Link, m.Intn(6)), Virts: make([]api.Virt, m.Intn(6))}
	for n := range x.Links {
		x.Links[n] = api.Link{Up: m.Intn(n+1) - 1, Fn: m.Intn(4), Pc: m.Intn(200), Into: m.Intn(5) - 1, Regs: m.sources(4, vars, len(x.Virts))}
	}
	for n := range x.Virts {
		x.Virts[n] = api.Virt{Rec: m.Intn(5), Cells: m.sources(4, vars, len(x.Virts))}
	}
	return x
}

// spoil changes one thing of a trace's links or Virts.
func (m chancer) spoil(x *api.Trace) {
	if len(x.Links) > 0 && m.Intn(2) == 0 {
		l := &x.Links[m.Intn(len(x.Links))]
		field := []*int{&l.Up, &l.Fn, &l.Pc, &l.Into, nil}[m.Intn(5)]
		if field != nil {
			*field = m.number()
		} else if len(l.Regs) > 0 {
			m.spoilSource(&l.Regs[m.Intn(len(l.Regs))])
		}
		return
	}
	if len(x.Virts) > 0 {
		l := &x.Virts[m.Intn(len(x.Virts))]
		if len(l.Cells) == 0 || m.Intn(3) == 0 {
			l.Rec = m.number()
		} else {
			m.spoilSource(&l.Cells[m.Intn(len(l.Cells))])
		}
	}
}

func (m chancer) spoilSource(s *api.Src) {
	switch m.Intn(5) {
	case 0:
		s.Kind = m.number()
	case 1:
		s.N = m.number()
	case 2:
		s.Val.Kind = m.number()
	case 3:
		s.Val.N = int64(m.number())
	default:
		*s = m.whatever()
	}
}

// wantAll wants of links and Virts what the chapter says of them in Chain, Rebuild and Encode, and tells how many times each of these had an answer.
func wantAll(t testing.TB, x api.Trace, vars []api.Value) (rebuilds, encodes int) {
	t.Helper()
	for n := -2; n < len(x.Links)+2; n++ {
		wantChain(t, x.Links, n, chainOf(x.Links, n)...)
		if frames, _ := wantRebuilt(t, n+2, x, n, vars); len(frames) > 0 {
			rebuilds++
		}
	}
	if b := wantEncoded(t, x.Links, x.Virts); b != nil {
		encodes++
	}
	return rebuilds, encodes
}

func TestTracesByChance(t *testing.T) { // P17.2 to P17.5
	m := chancerOf(172)
	rebuilds, encodes := 0, 0
	for range 4000 {
		vars := make([]api.Value, m.Intn(4))
		for n := range vars {
			vars[n] = m.value()
		}
		some, is := wantAll(t, m.trace(len(vars)), vars)
		rebuilds, encodes = rebuilds+some, encodes+is
		if t.Failed() {
			t.FailNow()
		}
	}
	if rebuilds < 5000 || encodes < 500 {
		t.Error(rebuilds, encodes)
	}
}

func TestSpoiledTraces(t *testing.T) { // P17.2 to P17.5, P1
	m := chancerOf(173)
	rebuilds, encodes := 0, 0
	for range 6000 {
		vars := make([]api.Value, m.Intn(4))
		x := m.trace(len(vars) + m.Intn(2))
		for range 1 + m.Intn(3) {
			m.spoil(&x)
		}
		some, is := wantAll(t, x, vars)
		rebuilds, encodes = rebuilds+some, encodes+is
		if t.Failed() {
			t.FailNow()
		}
	}
	if rebuilds < 2500 || encodes < 500 || encodes > 5500 {
		t.Error(rebuilds, encodes)
	}
}

func TestTracesOfAnyNumbers(t *testing.T) { // P17.2 to P17.5, P1
	m := chancerOf(174)
	any := func() []api.Src {
		l := make([]api.Src, m.Intn(4))
		for n := range l {
			l[n] = m.whatever()
		}
		return l
	}
	for range 6000 {
		var x api.Trace
		for range m.Intn(4) {
			x.Links = append(x.Links, api.Link{Up: m.number(), Fn: m.number(), Pc: m.number(), Into: m.number(), Regs: any()})
		}
		for range m.Intn(4) {
			x.Virts = append(x.Virts, api.Virt{Rec: m.number(), Cells: any()})
		}
		wantAll(t, x, nums(num(1), num(2))[:m.Intn(3)])
		wantAll(t, api.Trace{Links: roomyLinks(x.Links), Virts: roomyVirts(x.Virts)}, nil)
		if t.Failed() {
			t.FailNow()
		}
	}
}

// TestBooksByChance adds chains that are there in part: out of a few links, or with just one thing of them spoiled.
func TestBooksByChance(t *testing.T) { // P17.1, P17.6
	m := chancerOf(175)
	for range 300 {
		s := shelfOf(t)
		few := []api.Link{{}, link(0, 1), link(0, 1, c(0)), link(0, 1, v(0)), link(0, 2, c(0), c(0)), link(0, 2, c(0))}
		for range 40 {
			x := api.Trace{Links: make([]api.Link, m.Intn(6))}
			for n := range x.Links {
				x.Links[n] = copiedLinks(few[m.Intn(len(few)):])[0]
			}
			if m.Intn(4) == 0 {
				m.spoil(&x)
			}
			n := s.add(x.Links...)
			links := len(s.book.Links())
			s.wantAdd(n, links, x.Links...)
		}
		if t.Failed() {
			t.FailNow()
		}
	}
}

// TestSpoiledBytes: the bytes of traces, with some of them changed.
func TestSpoiledBytes(t *testing.T) { // P17.4, P17.5, P1
	m := chancerOf(176)
	are, none := 0, 0
	for range 20000 {
		x := m.trace(3)
		b, e := Encode(x.Links, x.Virts)
		if e != api.OK {
			t.Fatalf("%v of %.300s", e, text(x))
		}
		for range 1 + m.Intn(3) {
			at := m.Intn(len(b))
			switch m.Intn(5) {
			case 0:
				b[at] = byte(m.Intn(256))
			case 1:
				b[at] ^= 0x80
			case 2:
				b = slices.Insert(b, at, byte(m.Intn(256)))
			case 3:
				b[at]++
			default:
				if len(b) > 1 {
					b = slices.Delete(b, at, at+1)
				}
			}
		}
		if wantAsReckoned(t, b) {
			are++
		} else {
			none++
		}
		if t.Failed() {
			t.FailNow()
		}
	}
	if are < 500 || none < 500 {
		t.Error(are, none)
	}
}

func FuzzDecode(f *testing.F) {
	for _, b := range samples(f) {
		f.Add(b)
	}
	f.Fuzz(func(t *testing.T, b []byte) { wantAsReckoned(t, b) })
}

func FuzzTrace(f *testing.F) {
	f.Add([]byte{2, 1, 255, 3, 1, 2, 0, 1, 1, 0, 2, 4, 1, 2, 1})
	f.Add([]byte{})
	f.Fuzz(func(t *testing.T, b []byte) {
		next := func() int {
			if len(b) == 0 {
				return 0
			}
			n := int(int8(b[0]))
			b = b[1:]
			return n
		}
		sources := func() []api.Src {
			l := make([]api.Src, next()&3)
			for n := range l {
				if l[n].Kind = next(); l[n].Kind == api.SrcConst {
					l[n].Val = api.Value{Kind: next(), N: int64(next())}
				} else {
					l[n].N = next()
				}
			}
			return l
		}
		x := api.Trace{Links: make([]api.Link, next()&3), Virts: make([]api.Virt, next()&3)}
		for n := range x.Links {
			x.Links[n] = api.Link{Up: next(), Fn: next(), Pc: next(), Into: next(), Regs: sources()}
		}
		for n := range x.Virts {
			x.Virts[n] = api.Virt{Rec: next(), Cells: sources()}
		}
		wantAll(t, x, nums(num(1), num(2)))
		s := shelfOf(t)
		n := s.add(x.Links...)
		if again := s.add(x.Links...); again != n {
			t.Error(n, again)
		}
	})
}
