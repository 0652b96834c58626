package trace

import (
	"math"
	"math/rand"
	"reflect"
	"slices"
	"testing"

	"swath/api"
)

// chancer makes traces by chance.
type chancer struct{ *rand.Rand }

// number is one that is near a bound, or far from all.
func (m chancer) number() int64 {
	switch m.Intn(8) {
	case 0:
		return []int64{math.MinInt64, math.MaxInt64, 999, 1000, 1001, 999999, 1000000, 1000001, 1 << 32}[m.Intn(9)]
	case 1:
		return -1 - m.Int63n(3)
	}
	return m.Int63n(17)
}

func (m chancer) constant() api.Src {
	return con(api.Value{Kind: m.Intn(4), N: m.number()})
}

// source is a constant, or one of some variables.
func (m chancer) source(made []int) api.Src {
	if len(made) == 0 || m.Intn(3) == 0 {
		return m.constant()
	}
	return v(made[m.Intn(len(made))])
}

// sources are up to most of these, or of Virts.
func (m chancer) sources(most int, made []int, virts int) []api.Src {
	var l []api.Src
	for range m.Intn(most + 1) {
		if virts > 0 && m.Intn(3) == 0 {
			l = append(l, w(m.Intn(virts)))
		} else {
			l = append(l, m.source(made))
		}
	}
	return l
}

// op is a right operation with some variables made ahead of it; its link is one of the last ones, if there are any.
func (m chancer) op(made []int, links int) api.Op {
	l := lines[m.Intn(len(lines))]
	o := api.Op{Op: l.op, Snap: -1}
	args := l.args
	if args < 0 {
		args = m.Intn(5)
	}
	for range args {
		o.Args = append(o.Args, m.source(made))
	}
	if l.op == api.OpIs {
		o.Args[1] = m.constant()
	}
	o.K = l.k[0] + m.Int63n(l.k[1]-l.k[0]+1)
	o.C = int(m.Int63n(l.c[1] + 1))
	if links > 0 && m.Intn(3) > 0 {
		o.Snap = max(links-1-m.Intn(3), 0)
	}
	return o
}

// trace is one that is right nearly always: links and Virts come into being along with the operations, so that most take what is made by then.
func (m chancer) trace() api.Trace {
	x := api.Trace{Key: api.Key{Merge: m.Intn(3), N: m.Intn(5)}, Fn: m.Intn(5), Pc: m.Intn(50)}
	var made []int
	for n := range m.Intn(5) {
		x.Ins = append(x.Ins, 3*n+m.Intn(3))
		made = append(made, n)
	}
	for range m.Intn(12) {
		if m.Intn(3) == 0 {
			x.Virts = append(x.Virts, api.Virt{Rec: m.Intn(1001), Cells: m.sources(4, made, len(x.Virts)+1)})
		}
		if m.Intn(2) == 0 {
			x.Links = append(x.Links, api.Link{Up: m.Intn(len(x.Links)+1) - 1, Fn: m.Intn(3), Pc: m.Intn(9), Into: m.Intn(3) - 1, Regs: m.sources(5, made, len(x.Virts))})
		}
		o := m.op(made, len(x.Links))
		if Makes(o.Op) {
			made = append(made, len(x.Ins)+len(x.Ops))
		}
		x.Ops = append(x.Ops, o)
	}
	// A ring: the first Virt holds the last one, which may have come into being behind operations that reach the first.
	if len(x.Virts) > 1 && m.Intn(4) == 0 {
		x.Virts[0].Cells = append(x.Virts[0].Cells, w(len(x.Virts)-1))
	}
	for range x.Ins {
		x.Back = append(x.Back, m.source(made))
	}
	return x
}

// spoil changes a number or a list of a trace.
func (m chancer) spoil(x *api.Trace) {
	all := parts(x)
	part := all[m.Intn(len(all))]
	if part.CanInt() {
		part.SetInt(m.number())
		return
	}
	switch long := part.Len(); {
	case long == 0 || m.Intn(2) == 0:
		more := reflect.New(part.Type().Elem()).Elem()
		if more.Kind() == reflect.Struct && more.NumField() == 3 {
			more.Set(reflect.ValueOf(m.anySource()))
		}
		part.Set(reflect.Append(part, more))
	default:
		part.Set(part.Slice(0, m.Intn(long)))
	}
}

// anySource is any source at all.
func (m chancer) anySource() api.Src {
	s := api.Src{Kind: m.Intn(3), N: int(m.number())}
	if m.Intn(3) == 0 {
		s.N = 0
	}
	if s.Kind == api.SrcConst || m.Intn(6) == 0 {
		s.Val = api.Value{Kind: m.Intn(4), N: m.number()}
	}
	if m.Intn(20) == 0 {
		s.Kind = int(m.number())
	}
	return s
}

// tally is how many traces were told as right, and at which places others were told as wrong: operations, and behind the last one.
type tally struct {
	right, behind int
	ops           map[int]int
}

func (d *tally) count(x api.Trace, at int, e api.Errno) {
	switch {
	case e == api.OK:
		d.right++
	case at == len(x.Ops):
		d.behind++
	default:
		if d.ops == nil {
			d.ops = map[int]int{}
		}
		d.ops[at]++
	}
}

// wantMuch wants all answers to have come often enough: else nothing is held against anything.
func (d tally) wantMuch(t *testing.T, right, behind, places int) {
	t.Helper()
	if d.right < right || d.behind < behind || len(d.ops) < places {
		t.Errorf("%+v", d)
	}
}

func TestRightTracesByChance(t *testing.T) { // P16.1 to P16.5
	m := chancer{rand.New(rand.NewSource(161))}
	var did tally
	seen := map[int]int{}
	uses := 0
	for range 8000 {
		x := m.trace()
		at, e := wantAll(t, x)
		did.count(x, at, e)
		if e != api.OK {
			continue
		}
		for n, o := range x.Ops {
			seen[o.Op]++
			uses += len(Uses(x, n))
		}
	}
	did.wantMuch(t, 4000, 0, 4)
	if len(seen) != len(lines) || uses < 20000 {
		t.Error(seen, uses)
	}
}

func TestSpoiledTracesByChance(t *testing.T) { // P16.1 to P16.5
	m := chancer{rand.New(rand.NewSource(162))}
	var did tally
	for range 20000 {
		x := m.trace()
		for range 1 + m.Intn(3) {
			m.spoil(&x)
		}
		at, e := wantAll(t, x)
		did.count(x, at, e)
	}
	did.wantMuch(t, 1000, 4000, 8)
}

// TestNoTwoAreTakenForAlike holds Same against texts, of traces that differ little.
func TestNoTwoAreTakenForAlike(t *testing.T) { // P16.5
	m := chancer{rand.New(rand.NewSource(163))}
	alike := 0
	for range 5000 {
		x := m.trace()
		y := copied(x)
		for range m.Intn(3) {
			m.spoil(&y)
		}
		wantSame(t, x, y, text(x) == text(y))
		if text(x) == text(y) {
			alike++
		}
		wantSame(t, y, m.trace(), false)
	}
	if alike < 1000 || alike > 4000 {
		t.Error(alike)
	}
}

// whatever is a number of any size.
func (m chancer) whatever() int {
	if m.Intn(4) == 0 {
		return int(m.Uint64())
	}
	return int(m.number())
}

func (m chancer) anySources() []api.Src {
	l := make([]api.Src, m.Intn(5))
	for n := range l {
		l[n] = m.anySource()
		if m.Intn(4) == 0 {
			l[n] = api.Src{Kind: m.whatever(), Val: api.Value{Kind: m.whatever(), N: int64(m.whatever())}, N: m.whatever()}
		}
	}
	return l
}

// TestAnyTracesAtAll has traces of any numbers.
func TestAnyTracesAtAll(t *testing.T) { // P16.1 to P16.5, P1
	m := chancer{rand.New(rand.NewSource(164))}
	for range 20000 {
		x := api.Trace{Key: api.Key{Merge: m.whatever(), N: m.whatever()}, Fn: m.whatever(), Pc: m.whatever(), Back: m.anySources()}
		for range m.Intn(4) {
			x.Ins = append(x.Ins, m.whatever())
		}
		for range m.Intn(4) {
			x.Ops = append(x.Ops, api.Op{Op: m.whatever(), Args: m.anySources(), K: int64(m.whatever()), C: m.whatever(), Snap: m.whatever()})
		}
		for range m.Intn(4) {
			x.Links = append(x.Links, api.Link{Up: m.whatever(), Fn: m.whatever(), Pc: m.whatever(), Into: m.whatever(), Regs: m.anySources()})
		}
		for range m.Intn(4) {
			x.Virts = append(x.Virts, api.Virt{Rec: m.whatever(), Cells: m.anySources()})
		}
		wantAll(t, x)
		wantAll(t, roomy(x))
	}
}

// TestShortTracesWhole has all traces of one input and two operations out of a few telling ones, with all their links.
func TestShortTracesWhole(t *testing.T) { // P16.1, P16.4
	var sources []api.Src
	for n := range 4 {
		sources = append(sources, v(n))
	}
	sources = append(sources, w(0), w(1), num(3))
	var did tally
	for _, first := range []int{api.InsRoot, api.InsStep, api.OpLay, 0} {
		for _, arg := range sources {
			for snaps := range 9 {
				for _, reg := range sources {
					for _, cell := range sources {
						x := api.Trace{Ins: []int{0}, Ops: []api.Op{{Op: first, Snap: snaps%3 - 1}, {Op: api.InsLen, Args: []api.Src{arg}, Snap: snaps/3 - 1}}, Back: []api.Src{cell}}
						x.Links = []api.Link{link(-1, reg), link(0, v(0))}
						x.Virts = []api.Virt{virt(cell), virt(w(0), v(2))}
						at, e := reckoning{x}.checked()
						wantCheck(t, x, at, e)
						did.count(x, at, e)
						for op := range 3 {
							wantUses(t, x, op, reckoning{x}.uses(op)...)
						}
					}
				}
			}
		}
	}
	did.wantMuch(t, 500, 100, 2)
}

func FuzzTrace(f *testing.F) {
	f.Add([]byte{1, 3, 2, 1, 1, 4, 26, 0, 0, 0, 4, 1, 1, 7})
	f.Add([]byte{})
	f.Add(slices.Repeat([]byte{3, 1, 4, 1, 5, 9, 2, 6}, 20))
	f.Fuzz(func(t *testing.T, b []byte) {
		next := func() int {
			if len(b) == 0 {
				return 0
			}
			n := int(int8(b[0]))
			b = b[1:]
			return n
		}
		sources := func() []api.Src {
			l := make([]api.Src, next()&3)
			for n := range l {
				l[n].Kind = next()
				if l[n].Kind == api.SrcConst {
					l[n].Val = api.Value{Kind: next(), N: int64(next())}
				} else {
					l[n].N = next()
				}
			}
			return l
		}
		x := api.Trace{Key: api.Key{N: next()}, Ins: make([]int, next()&3), Ops: make([]api.Op, next()&7), Links: make([]api.Link, next()&3), Virts: make([]api.Virt, next()&3)}
		for n := range x.Ins {
			x.Ins[n] = next()
		}
		for n := range x.Links {
			x.Links[n] = api.Link{Up: next(), Regs: sources()}
		}
		for n := range x.Virts {
			x.Virts[n] = api.Virt{Rec: next(), Cells: sources()}
		}
		for n := range x.Ops {
			x.Ops[n] = api.Op{Op: next(), Args: sources(), K: int64(next()), C: next(), Snap: next()}
		}
		x.Back = sources()
		wantAll(t, x)
	})
}
