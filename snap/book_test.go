package snap

import (
	"math"
	"slices"
	"testing"

	"swath/api"
)

// shelf is a book and what it is held against.
type shelf struct {
	testing.TB
	book *Book
	want bookReckoning
}

func shelfOf(t testing.TB) *shelf { return &shelf{TB: t, book: New()} }

// add adds a chain, wants the reckoning's answer and links, and is that answer.
func (s *shelf) add(l ...api.Link) int {
	s.Helper()
	before := copiedLinks(l)
	got, want := s.book.Add(l), s.want.add(l)
	if got != want {
		s.Errorf("Add of %v is %d instead of %d", l, got, want)
	}
	wantText(s, "Links", s.book.Links(), s.want.links)
	wantText(s, "the chain that was handed in", l, before)
	s.isThere(got, l)
	return got
}

// isThere wants the chain of a number to be what was added: P17.6.
func (s *shelf) isThere(n int, l []api.Link) {
	s.Helper()
	links := s.book.Links()
	chain := Chain(links, n)
	if len(chain) != len(l) {
		s.Fatalf("the chain of %d is %v for %v", n, chain, l)
	}
	up := -1
	for at, number := range chain {
		x := l[at]
		x.Up = up
		if !sameLink(links[number], x) {
			s.Errorf("link %d of the chain of %d is %v instead of %v", at, n, links[number], x)
		}
		up = number
	}
}

// wantAdd wants of Add an answer and how many links there are then.
func (s *shelf) wantAdd(answer, links int, l ...api.Link) {
	s.Helper()
	if got := s.add(l...); got != answer || len(s.book.Links()) != links {
		s.Fatalf("Add of %v is %d instead of %d, and there are %d links instead of %d", l, got, answer, len(s.book.Links()), links)
	}
}

func TestExample(t *testing.T) { // P17.1
	f, g, h := api.Link{Fn: 1}, api.Link{Fn: 2}, api.Link{Fn: 3}
	b := New()
	if n := b.Add([]api.Link{f, g}); n != 1 {
		t.Error(n)
	}
	if n := b.Add([]api.Link{f, h}); n != 2 {
		t.Error(n)
	}
	wantText(t, "Links", b.Links(), []api.Link{{Up: -1, Fn: 1}, {Up: 0, Fn: 2}, {Up: 0, Fn: 3}})
}

func TestNewBook(t *testing.T) { // P17.1
	if l := New().Links(); len(l) != 0 {
		t.Error(l)
	}
	s := shelfOf(t)
	s.wantAdd(-1, 0)
	for _, l := range [][]api.Link{nil, {}} {
		if n := s.book.Add(l); n != -1 || len(s.book.Links()) != 0 {
			t.Error(n, s.book.Links())
		}
	}
	s.wantAdd(0, 1, link(0, 1))
	s.wantAdd(-1, 1)
}

func TestBooksApart(t *testing.T) { // P17.1
	a, b := shelfOf(t), shelfOf(t)
	a.wantAdd(1, 2, link(0, 1, c(1)), link(0, 2))
	b.wantAdd(0, 1, link(0, 2))
	a.wantAdd(2, 3, link(0, 2))
	b.wantAdd(2, 3, link(0, 1, c(1)), link(0, 2))
	wantText(t, "Links", b.book.Links(), []api.Link{link(-1, 2), link(-1, 1, c(1)), link(1, 2)})
}

func TestAdd(t *testing.T) { // P17.1, P17.6
	s := shelfOf(t)
	f, g, h := link(0, 1, v(0), c(5)), link(0, 2, w(1)), link(0, 3)
	s.wantAdd(0, 1, f)       // one frame
	s.wantAdd(0, 1, f)       // there whole
	s.wantAdd(2, 3, f, g, h) // the first one is there
	s.wantAdd(2, 3, f, g, h) // there whole
	s.wantAdd(1, 3, f, g)    // a piece of what is there
	s.wantAdd(3, 4, f, h)    // parts behind the first
	s.wantAdd(4, 5, f, g, g) // parts behind the second
	s.wantAdd(7, 8, g, g, g) // not at all: g stands nowhere first
	s.wantAdd(8, 9, g, h)    // parts behind the first of those
	s.wantAdd(9, 10, h)      // h stands elsewhere, but not first
	s.wantAdd(4, 10, f, g, g)
	s.wantAdd(10, 11, f, f) // a frame on itself
	s.wantAdd(11, 12, f, f, f)
	s.wantAdd(0, 12, f)
	s.wantAdd(13, 14, h, g, f) // the first frames the other way round
	s.wantAdd(-1, 14)
	var ups, fns []int
	for _, x := range s.book.Links() {
		ups, fns = append(ups, x.Up), append(fns, x.Fn)
	}
	wantText(t, "Up", ups, []int{-1, 0, 1, 0, 1, -1, 5, 6, 5, -1, 0, 10, 9, 12})
	wantText(t, "Fn", fns, []int{1, 2, 3, 3, 2, 2, 2, 2, 3, 3, 1, 1, 2, 1})
}

// other is a link and a way in which it differs from base.
type other struct {
	name string
	link api.Link
}

func base() api.Link {
	return api.Link{Fn: 1, Pc: 2, Into: 3, Regs: list(c(4), v(5), w(6))}
}

// others differ from base in just one field, register or field of a Src.
func others() []other {
	var l []other
	add := func(name string, change func(x *api.Link)) {
		x := copiedLinks([]api.Link{base()})[0]
		change(&x)
		l = append(l, other{name, x})
	}
	for _, n := range []int{0, -1, 4, 1 << 32, 1<<32 + 1, 1<<32 + 2, 1<<32 + 3, 257, 258, 259, math.MaxInt, math.MinInt} {
		add("Fn", func(x *api.Link) { x.Fn = n })
		add("Pc", func(x *api.Link) { x.Pc = n })
		add("Into", func(x *api.Link) { x.Into = n })
		for at := range 3 {
			add("a register's N", func(x *api.Link) { x.Regs[at].N += n | 1 })
			add("a register's Kind", func(x *api.Link) { x.Regs[at].Kind += n | 1 })
			add("a value's N", func(x *api.Link) { x.Regs[at].Val.N += int64(n | 1) })
			add("a value's Kind", func(x *api.Link) { x.Regs[at].Val.Kind += n | 1 })
		}
	}
	add("Fn and Pc", func(x *api.Link) { x.Fn, x.Pc = x.Pc, x.Fn })
	add("Pc and Into", func(x *api.Link) { x.Pc, x.Into = x.Into, x.Pc })
	add("two registers", func(x *api.Link) { x.Regs[0], x.Regs[1] = x.Regs[1], x.Regs[0] })
	add("the first register", func(x *api.Link) { x.Regs = x.Regs[1:] })
	add("the last register", func(x *api.Link) { x.Regs = x.Regs[:2] })
	add("all registers", func(x *api.Link) { x.Regs = nil })
	add("one more", func(x *api.Link) { x.Regs = append(x.Regs, api.Src{}) })
	add("one more ahead", func(x *api.Link) { x.Regs = append([]api.Src{{}}, x.Regs...) })
	add("one twice", func(x *api.Link) { x.Regs = append(x.Regs, w(6)) })
	return l
}

func TestOneFieldApart(t *testing.T) { // P17.1
	for _, o := range others() {
		for above := range 3 {
			s := shelfOf(t)
			var rest []api.Link
			for n := range above {
				rest = append(rest, link(0, n))
			}
			below := link(0, 9)
			one, two := append(slices.Clone(rest), base(), below), append(slices.Clone(rest), o.link, below)
			s.wantAdd(above+1, above+2, one...)
			s.wantAdd(above+3, above+4, two...)
			s.wantAdd(above+1, above+4, one...)
			s.wantAdd(above+3, above+4, two...)
			if t.Failed() {
				t.Fatal(o.name, o.link)
			}
		}
	}
}

// TestAllApart: these links differ from one another, too, and lists of registers are no others' beginnings.
func TestAllApart(t *testing.T) { // P17.1, P17.6
	s := shelfOf(t)
	numbers := map[string]int{}
	all := append(others(), other{"base", base()})
	for range 2 {
		for _, o := range all {
			n := s.add(o.link)
			if first, is := numbers[text(o.link)]; is && first != n {
				t.Error(o.name, o.link, first, n)
			}
			numbers[text(o.link)] = n
		}
	}
	if len(numbers) != len(s.book.Links()) {
		t.Error(len(numbers), "links are told as", len(s.book.Links()))
	}
}

// TestUpIsNotLookedAt: whatever Up says, a chain is the same.
func TestUpIsNotLookedAt(t *testing.T) { // P17.1
	s := shelfOf(t)
	s.wantAdd(2, 3, link(-1, 1), link(0, 2), link(1, 3))
	for _, n := range edges {
		for _, m := range edges {
			s.wantAdd(2, 3, link(n, 1), link(m, 2), link(n, 3))
			s.wantAdd(0, 3, link(m, 1))
		}
	}
	wantText(t, "Links", s.book.Links(), []api.Link{link(-1, 1), link(0, 2), link(1, 3)})
}

// TestFieldsOfAnyNumbers: a link need be no right one.
func TestFieldsOfAnyNumbers(t *testing.T) { // P17.1, P1
	s := shelfOf(t)
	added := 0
	for _, n := range edges {
		x := api.Link{Up: n, Fn: n, Pc: n, Into: n, Regs: list(api.Src{Kind: n, Val: api.Value{Kind: n, N: int64(n)}, N: n})}
		s.wantAdd(added, added+1, x)
		added++
	}
}

func TestEmptyRegisters(t *testing.T) { // P3
	s := shelfOf(t)
	s.wantAdd(0, 1, api.Link{Fn: 1, Regs: nil})
	s.wantAdd(0, 1, api.Link{Fn: 1, Regs: list()})
	s.wantAdd(0, 1, api.Link{Fn: 1, Regs: make([]api.Src, 0, 5)})
}

func TestLongChain(t *testing.T) { // P17.1, P17.2, P17.6
	var l []api.Link
	for n := range 100000 {
		l = append(l, plain(0, c(int64(n%3))))
	}
	b := New()
	for range 2 {
		if n := b.Add(l); n != len(l)-1 || len(b.Links()) != len(l) {
			t.Fatal(n, len(b.Links()))
		}
	}
	// The chains' frames repeat, but not with the same Up.
	if n := b.Add(l[3:]); n != len(l)-4 || len(b.Links()) != len(l) {
		t.Fatal(n, len(b.Links()))
	}
	if n := b.Add(l[1:]); n != 2*len(l)-2 || len(b.Links()) != 2*len(l)-1 {
		t.Fatal(n, len(b.Links()))
	}
	chain := Chain(b.Links(), len(l)-1)
	for n, at := range chain {
		if n != at {
			t.Fatal(n, at)
		}
	}
	if len(chain) != len(l) {
		t.Error(len(chain))
	}
}

func TestManyRegisters(t *testing.T) { // P17.1
	regs := make([]api.Src, 200000)
	for n := range regs {
		regs[n] = v(n)
	}
	b := New()
	last := slices.Clone(regs)
	last[len(last)-1] = v(0)
	for range 2 {
		for want, l := range [][]api.Src{regs, regs[:len(regs)-1], regs[1:], last} {
			if n := b.Add([]api.Link{plain(0, l...)}); n != want {
				t.Fatal(n, want)
			}
		}
	}
}

func TestNoBook(t *testing.T) { // P17.1, P1
	for name, b := range map[string]*Book{"nil": nil, "not made": {}, "new": new(Book)} {
		for _, l := range [][]api.Link{nil, {}, {{}}, {link(0, 1), link(0, 2, v(1))}} {
			for range 2 {
				if n := b.Add(l); n != -1 {
					t.Error(name, l, n)
				}
				if links := b.Links(); len(links) != 0 {
					t.Error(name, l, links)
				}
			}
		}
	}
}
