package snap

import (
	"math/big"
	"slices"

	"swath/api"
)

// bookReckoning is P17.1 as plainly as it stands: the links, each as a text and with the number of the one above.
type bookReckoning struct {
	links []api.Link
}

func (r *bookReckoning) add(l []api.Link) int {
	up := -1
	for _, x := range l {
		x.Up = up
		at := slices.IndexFunc(r.links, func(y api.Link) bool { return sameLink(x, y) })
		if at < 0 {
			r.links = append(r.links, copiedLinks([]api.Link{x})[0])
			at = len(r.links) - 1
		}
		up = at
	}
	return up
}

// sameLink holds links against each other field by field.
func sameLink(x, y api.Link) bool {
	same := x.Up == y.Up && x.Fn == y.Fn && x.Pc == y.Pc && x.Into == y.Into && len(x.Regs) == len(y.Regs)
	for n := range x.Regs {
		same = same && sameSource(x.Regs[n], y.Regs[n])
	}
	return same
}

func sameSource(a, b api.Src) bool {
	return a.Kind == b.Kind && a.Val.Kind == b.Val.Kind && a.Val.N == b.Val.N && a.N == b.N
}

// chainOf is P17.2: the way up from n, the other way round.
func chainOf(l []api.Link, n int) []int {
	if n < 0 || n >= len(l) {
		return nil
	}
	up := l[n].Up
	if up >= n || up < -1 {
		return nil
	}
	if up == -1 {
		return []int{n}
	}
	above := chainOf(l, up)
	if above == nil {
		return nil
	}
	return append(above, n)
}

// rebuilding is P17.3, done with calls within one another: first is the number of the next thing of the heap.
type rebuilding struct {
	trace  api.Trace
	vars   []api.Value
	first  int64
	made   map[int]int64
	things []api.Obj
	wrong  bool
}

func (r *rebuilding) value(s api.Src) api.Value {
	switch {
	case s.Kind == api.SrcConst:
		return s.Val
	case s.Kind == api.SrcVar && s.N >= 0 && s.N < len(r.vars):
		return r.vars[s.N]
	case s.Kind == api.SrcVirt && s.N >= 0 && s.N < len(r.trace.Virts):
		return r.thing(s.N)
	}
	r.wrong = true
	return api.Value{}
}

func (r *rebuilding) thing(virt int) api.Value {
	n, is := r.made[virt]
	if !is {
		n = int64(len(r.things))
		r.made[virt] = n
		r.things = append(r.things, api.Obj{})
		r.things[n] = api.Obj{Rec: max(r.trace.Virts[virt].Rec, -1), Cells: r.values(r.trace.Virts[virt].Cells)}
	}
	return ref(r.first + n)
}

func (r *rebuilding) values(l []api.Src) []api.Value {
	var values []api.Value
	for _, s := range l {
		values = append(values, r.value(s))
	}
	return values
}

// rebuilt is what Rebuild is to answer, and the things that it is to lay in a heap with so many.
func rebuilt(things int, t api.Trace, n int, vars []api.Value) ([]api.Frame, []api.Obj, api.Errno) {
	r := rebuilding{trace: t, vars: vars, first: int64(things), made: map[int]int64{}}
	var frames []api.Frame
	for _, at := range chainOf(t.Links, n) {
		l := t.Links[at]
		frames = append(frames, api.Frame{Fn: l.Fn, Pc: l.Pc, Regs: r.values(l.Regs), Into: l.Into})
	}
	if r.wrong || frames == nil {
		return nil, nil, api.ErrRange
	}
	return frames, r.things, api.OK
}

// figure is a number as it stands in bytes; what is wrong tells that it mustn't.
type figure struct {
	n     *big.Int
	wrong bool
}

// plus is a number and another one, without a sign.
func plus(n, more int) figure {
	sum := new(big.Int).Add(big.NewInt(int64(n)), big.NewInt(int64(more)))
	most := new(big.Int).Exp(big.NewInt(2), big.NewInt(40), nil)
	return figure{sum, sum.Sign() < 0 || sum.Cmp(most) > 0}
}

// signed is a number with a sign.
func signed(n int64) figure {
	twice := new(big.Int).Mul(big.NewInt(n), big.NewInt(2))
	if n < 0 {
		twice.Sub(twice.Neg(twice), big.NewInt(1))
	}
	return figure{n: twice}
}

func figuresOfSources(l []api.Src) []figure {
	all := []figure{plus(len(l), 0)}
	for _, s := range l {
		kind := plus(s.Kind, 0)
		switch s.Kind {
		case 0:
			kind.wrong = s.N != 0
			all = append(all, kind, signed(int64(s.Val.Kind)), signed(s.Val.N))
		case 1, 2:
			kind.wrong = s.Val.Kind != 0 || s.Val.N != 0
			all = append(all, kind, plus(s.N, 0))
		default:
			kind.wrong = true
			all = append(all, kind)
		}
	}
	return all
}

// figures are the numbers of links and Virts in the order in which P17.4 names them.
func figures(l []api.Link, v []api.Virt) []figure {
	all := []figure{plus(len(l), 0)}
	for _, x := range l {
		all = append(all, plus(x.Up, 1), plus(x.Fn, 0), plus(x.Pc, 0), plus(x.Into, 1))
		all = append(all, figuresOfSources(x.Regs)...)
	}
	all = append(all, plus(len(v), 0))
	for _, x := range v {
		all = append(all, plus(x.Rec, 0))
		all = append(all, figuresOfSources(x.Cells)...)
	}
	return all
}

// digits are a number's bytes: its digits to the base 128, the lowest ahead, all but the last one with the highest bit.
func digits(n *big.Int) []byte {
	var b []byte
	rest, digit := new(big.Int).Set(n), new(big.Int)
	for {
		rest.DivMod(rest, big.NewInt(128), digit)
		if rest.Sign() == 0 {
			return append(b, byte(digit.Int64()))
		}
		b = append(b, byte(128+digit.Int64()))
	}
}

// encoded is what Encode is to answer.
func encoded(l []api.Link, v []api.Virt) ([]byte, api.Errno) {
	var b []byte
	for _, f := range figures(l, v) {
		if f.wrong {
			return nil, api.ErrSnap
		}
		b = append(b, digits(f.n)...)
	}
	if len(b) > 16777216 {
		return nil, api.ErrLong
	}
	return b, api.OK
}

// decoding goes through numbers: those of no bytes are nil.
type decoding struct {
	numbers []*big.Int
}

// numbersOf are bytes' numbers, each up to a byte without the highest bit; what stands behind the last such is one, too, but none that there is.
func numbersOf(b []byte) []*big.Int {
	var l []*big.Int
	for len(b) > 0 {
		end := slices.IndexFunc(b, func(x byte) bool { return x < 128 })
		if end < 0 {
			return append(l, nil)
		}
		n := new(big.Int)
		for at := end; at >= 0; at-- {
			n.Add(n.Mul(n, big.NewInt(128)), big.NewInt(int64(b[at]%128)))
		}
		l = append(l, n)
		b = b[end+1:]
	}
	return l
}

// next is the next number; -1 where there is none, or one too great for 64 bits with a sign.
func (d *decoding) next() int {
	if len(d.numbers) == 0 {
		return -1
	}
	n := d.numbers[0]
	d.numbers = d.numbers[1:]
	if n == nil || !n.IsInt64() {
		return -1
	}
	return int(n.Int64())
}

// nextSigned is the next number with a sign; 0 where there is none.
func (d *decoding) nextSigned() int64 {
	if len(d.numbers) == 0 || d.numbers[0] == nil {
		return 0
	}
	n := new(big.Int).Set(d.numbers[0])
	d.numbers = d.numbers[1:]
	if n.Bit(0) == 1 {
		n.Neg(n.Add(n, big.NewInt(1)))
	}
	n.Quo(n, big.NewInt(2))
	if !n.IsInt64() {
		return 0
	}
	return n.Int64()
}

func (d *decoding) sources() []api.Src {
	var l []api.Src
	for left := d.next(); left > 0 && len(d.numbers) > 0; left-- {
		s := api.Src{Kind: d.next()}
		if s.Kind == 0 {
			s.Val.Kind = int(d.nextSigned())
			s.Val.N = d.nextSigned()
		} else {
			s.N = d.next()
		}
		l = append(l, s)
	}
	return l
}

// decoded is what Decode is to answer: what the numbers say at best, if that is these bytes.
func decoded(b []byte) ([]api.Link, []api.Virt, api.Errno) {
	d := decoding{numbersOf(b)}
	var links []api.Link
	var virts []api.Virt
	for left := d.next(); left > 0 && len(d.numbers) > 0; left-- {
		var l api.Link
		l.Up, l.Fn, l.Pc, l.Into = d.next()-1, d.next(), d.next(), d.next()-1
		l.Regs = d.sources()
		links = append(links, l)
	}
	for left := d.next(); left > 0 && len(d.numbers) > 0; left-- {
		var x api.Virt
		x.Rec = d.next()
		x.Cells = d.sources()
		virts = append(virts, x)
	}
	if again, e := encoded(links, virts); e != api.OK || !slices.Equal(again, b) {
		return nil, nil, api.ErrSnap
	}
	return links, virts, api.OK
}
