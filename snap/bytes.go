package snap

import "swath/api"

const (
	// mostNumber is the greatest number that stands in bytes, if it has no sign.
	mostNumber = 1 << 40
	mostBytes  = 1 << 24
)

// What a byte of a number is: seven bits, and one that says that there are more.
const (
	low  = 0x7F
	more = 0x80
)

// writer writes links and Virts down: no more bytes than may be, but it goes on to the end, for what may not stand there counts more
// than that there is too much.
type writer struct {
	bytes []byte
	long  bool
}

func (w *writer) whole(l []api.Link, v []api.Virt) {
	w.number(len(l))
	for _, x := range l {
		w.link(x)
	}
	w.number(len(v))
	for _, x := range v {
		w.virt(x)
	}
}

// link relies on the numbers' wrap-round: the greatest one and 1 are below 0, and so not taken.
func (w *writer) link(l api.Link) {
	w.number(l.Up + 1)
	w.number(l.Fn)
	w.number(l.Pc)
	w.number(l.Into + 1)
	w.sources(l.Regs)
}

func (w *writer) virt(v api.Virt) {
	w.number(v.Rec)
	w.sources(v.Cells)
}

func (w *writer) sources(l []api.Src) {
	w.number(len(l))
	for _, s := range l {
		w.source(s)
	}
}

func (w *writer) source(s api.Src) {
	w.number(s.Kind)
	switch s.Kind {
	case api.SrcConst:
		want(s.N == 0)
		w.value(s.Val)
	case api.SrcVar, api.SrcVirt:
		want(s.Val == api.Value{})
		w.number(s.N)
	default:
		want(false)
	}
}

// value writes both numbers of a value with a sign: its Kind may be any, also one that no value of a heap has.
func (w *writer) value(v api.Value) {
	w.signed(int64(v.Kind))
	w.signed(v.N)
}

// number writes a number without a sign, or throws if it may not stand there.
func (w *writer) number(n int) {
	want(n >= 0 && n <= mostNumber)
	w.bits(uint64(n))
}

func (w *writer) signed(n int64) {
	if n < 0 {
		w.bits(uint64(-n)*2 - 1)
		return
	}
	w.bits(uint64(n) * 2)
}

func (w *writer) bits(n uint64) {
	for n > low {
		w.put(byte(n&low) | more)
		n >>= 7
	}
	w.put(byte(n))
}

func (w *writer) put(b byte) {
	if len(w.bytes) == mostBytes {
		w.long = true
		return
	}
	w.bytes = append(w.bytes, b)
}

// reader reads links and Virts, and throws where there are none.
type reader struct {
	rest []byte
}

// many reads how many there are, and each. Nothing is made ahead, for the bytes may promise more than follow.
func many[T any](r *reader, one func() T) []T {
	var l []T
	for range r.number() {
		l = append(l, one())
	}
	return l
}

func (r *reader) link() api.Link {
	var l api.Link
	l.Up = r.number() - 1
	l.Fn = r.number()
	l.Pc = r.number()
	l.Into = r.number() - 1
	l.Regs = many(r, r.source)
	return l
}

func (r *reader) virt() api.Virt {
	var v api.Virt
	v.Rec = r.number()
	v.Cells = many(r, r.source)
	return v
}

func (r *reader) source() api.Src {
	s := api.Src{Kind: r.number()}
	switch s.Kind {
	case api.SrcConst:
		s.Val = r.value()
	case api.SrcVar, api.SrcVirt:
		s.N = r.number()
	default:
		want(false)
	}
	return s
}

func (r *reader) value() api.Value {
	var v api.Value
	v.Kind = int(r.signed())
	v.N = r.signed()
	return v
}

func (r *reader) number() int {
	n := r.bits()
	want(n <= mostNumber)
	return int(n)
}

func (r *reader) signed() int64 {
	n := r.bits()
	half := int64(n / 2)
	if n%2 == 1 {
		return -half - 1
	}
	return half
}

func (r *reader) bits() uint64 {
	var n uint64
	for shift := 0; ; shift += 7 {
		b := r.next()
		part := uint64(b & low)
		// What is shifted out at the top doesn't come back: a number of more than 64 bits.
		want(part<<shift>>shift == part)
		n |= part << shift
		if b < more {
			// A last byte of 0 that isn't the only one: fewer would do.
			want(b != 0 || shift == 0)
			return n
		}
	}
}

func (r *reader) next() byte {
	want(len(r.rest) > 0)
	b := r.rest[0]
	r.rest = r.rest[1:]
	return b
}
