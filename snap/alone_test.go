package snap

import (
	"bytes"
	"slices"
	"testing"

	"swath/api"
)

// mark stands behind the length of each list of what is roomy.
const mark = -987654

var spoilt = api.Src{Kind: mark, Val: api.Value{Kind: mark, N: mark}, N: mark}

func withRoom[T any](l []T, x T) []T {
	room := append(slices.Clone(l), x, x, x)
	return room[:len(l)]
}

// roomyLinks and roomyVirts are the same in memory of their own, each list with marks behind its length.
func roomyLinks(l []api.Link) []api.Link {
	l = withRoom(l, api.Link{Up: mark, Regs: list(spoilt)})
	for n := range l {
		l[n].Regs = withRoom(l[n].Regs, spoilt)
	}
	return l
}

func roomyVirts(l []api.Virt) []api.Virt {
	l = withRoom(l, api.Virt{Rec: mark, Cells: list(spoilt)})
	for n := range l {
		l[n].Cells = withRoom(l[n].Cells, spoilt)
	}
	return l
}

// whole is links and Virts as a text, with what lies behind their lists.
func whole(l []api.Link, x []api.Virt) string {
	s := text(l[:cap(l)]) + text(x[:cap(x)])
	for _, y := range l {
		s += text(y.Regs[:cap(y.Regs)])
	}
	for _, y := range x {
		s += text(y.Cells[:cap(y.Cells)])
	}
	return s
}

// apart wants that lists share no memory: what is written into one, up to where its memory ends, is seen in no other.
// What lies behind their lengths is nobody's: it holds nothing.
func apart[T comparable](t testing.TB, x T, lists ...[]T) {
	t.Helper()
	var none T
	for n, l := range lists {
		before := slices.Clone(l)
		room := l[:cap(l)]
		for at := range room {
			if at >= len(l) && room[at] != none {
				t.Errorf("behind list %d stands %v", n, room[at])
			}
			room[at] = x
		}
		for m, other := range lists {
			if m != n && slices.Contains(other, x) {
				t.Errorf("list %d shares memory with list %d", n, m)
			}
		}
		copy(l, before)
		clear(room[len(l):])
	}
}

func regsOf(l []api.Link) [][]api.Src {
	var all [][]api.Src
	for _, x := range l {
		all = append(all, x.Regs)
	}
	return all
}

func cellsOf(l []api.Virt) [][]api.Src {
	var all [][]api.Src
	for _, x := range l {
		all = append(all, x.Cells)
	}
	return all
}

func regsOfFrames(l []api.Frame) [][]api.Value {
	var all [][]api.Value
	for _, x := range l {
		all = append(all, x.Regs)
	}
	return all
}

func someLinks() []api.Link {
	return []api.Link{link(-1, 1, c(4), v(0), w(1)), link(0, 2), link(1, 3, v(1), w(0), w(1), con(null)), link(0, 4, c(1))}
}

func someVirts() []api.Virt { return []api.Virt{virt(1, w(1), c(2), v(1)), virt(-1, w(0)), virt(2)} }

// encodable are Virts that have bytes.
func encodable() []api.Virt { return []api.Virt{virt(1, w(1), c(2), v(1)), virt(5, w(0)), virt(2)} }

func TestBookKeepsItsOwn(t *testing.T) { // P2
	b := New()
	l := roomyLinks(someLinks())
	before := whole(l, nil)
	if n := b.Add(l); n != 3 || whole(l, nil) != before {
		t.Error(n, before, "has become", whole(l, nil))
	}
	want := b.Links()
	for n := range l {
		for at := range l[n].Regs {
			l[n].Regs[at] = spoilt
		}
		l[n] = api.Link{Fn: mark}
	}
	wantText(t, "Links behind a change of what was added", b.Links(), want)
	if n := b.Add(someLinks()); n != 3 || len(b.Links()) != 4 {
		t.Error(n, b.Links())
	}
}

func TestLinksAlone(t *testing.T) { // P2
	b := New()
	shared := list(c(1), v(2), w(3))
	b.Add([]api.Link{link(0, 1, shared...), link(0, 2, shared[:2]...), link(0, 3, shared[1:]...), link(0, 4)})
	want := text(b.Links())
	one, other := b.Links(), b.Links()
	apart(t, spoilt, slices.Concat(regsOf(one), regsOf(other), regsOf(b.links), [][]api.Src{shared})...)
	for n := range one {
		for at := range one[n].Regs {
			one[n].Regs[at] = spoilt
		}
		one[n] = api.Link{Fn: mark}
	}
	_ = append(one, api.Link{Fn: mark})
	if text(other) != want || text(b.Links()) != want {
		t.Error(want, "has become", other, b.Links())
	}
	// A later Add is seen in no answer that was there ahead of it, and they don't stand in its way.
	_ = append(other, api.Link{Fn: mark})
	if n := b.Add([]api.Link{link(0, 9)}); n != 4 || text(other) != want || b.Links()[4].Fn != 9 {
		t.Error(n, other, b.Links())
	}
}

func TestChainAlone(t *testing.T) { // P2
	l := roomyLinks(someLinks())
	before := whole(l, nil)
	for n := -1; n < 6; n++ {
		one, other := Chain(l, n), Chain(l, n)
		apart(t, mark, one, other)
		if !slices.Equal(one, Chain(someLinks(), n)) || whole(l, nil) != before {
			t.Error(n, one, before, "has become", whole(l, nil))
		}
	}
}

func TestRebuildAlone(t *testing.T) { // P2
	for n := range someLinks() {
		x := api.Trace{Links: roomyLinks(someLinks()), Virts: roomyVirts(someVirts())}
		vars := withRoom(nums(num(50), ref(0)), api.Value{Kind: mark})
		before := whole(x.Links, x.Virts) + text(vars[:5])
		h, g := heapWith(1), heapWith(1)
		one, e := Rebuild(h, x, n, vars)
		other, otherE := Rebuild(g, x, n, vars)
		if e != api.OK || otherE != api.OK {
			t.Fatal(n, e, otherE)
		}
		things := text(thingsOf(h))
		apart(t, api.Value{Kind: mark}, slices.Concat(regsOfFrames(one), regsOfFrames(other))...)
		for _, f := range one {
			for at := range f.Regs {
				f.Regs[at] = api.Value{Kind: mark}
			}
		}
		if text(thingsOf(h)) != things || text(thingsOf(g)) != things || whole(x.Links, x.Virts)+text(vars[:5]) != before {
			t.Error(n, things, thingsOf(h), thingsOf(g), before, "has become", whole(x.Links, x.Virts))
		}
		// Nor do things share their cells with the trace.
		for at := range len(thingsOf(h)) - 1 {
			h.SetField(ref(int64(at+1)), 1, 0, api.Value{Kind: mark})
			h.SetElem(ref(int64(at+1)), num(0), api.Value{Kind: mark})
		}
		if whole(x.Links, x.Virts)+text(vars[:5]) != before || text(thingsOf(g)) != things || text(regsOfFrames(other)) != text(regsOfFrames(must(t, x, n, vars))) {
			t.Error(n, before, "has become", whole(x.Links, x.Virts))
		}
	}
}

// must is Rebuild's answer in a heap with one thing.
func must(t testing.TB, x api.Trace, n int, vars []api.Value) []api.Frame {
	t.Helper()
	frames, e := Rebuild(heapWith(1), x, n, vars)
	if e != api.OK {
		t.Fatal(e)
	}
	return frames
}

func TestEncodeAlone(t *testing.T) { // P2
	l, x := roomyLinks(someLinks()), roomyVirts(encodable())
	before := whole(l, x)
	one, e := Encode(l, x)
	other, otherE := Encode(l, x)
	plain, _ := Encode(someLinks(), encodable())
	if e != api.OK || otherE != api.OK || !bytes.Equal(one, other) || !bytes.Equal(one, plain) || whole(l, x) != before {
		t.Error(e, otherE, one, other, plain, before, "has become", whole(l, x))
	}
	apart(t, 0xEE, one, other, plain)
}

func TestDecodeAlone(t *testing.T) { // P2
	b, e := Encode(someLinks(), encodable())
	if e != api.OK {
		t.Fatal(e)
	}
	room := withRoom(b, 0xEE)
	before := slices.Clone(room[:cap(room)])
	l, x, e := Decode(room)
	links, virts, otherE := Decode(room)
	if e != api.OK || otherE != api.OK || !bytes.Equal(room[:cap(room)], before) {
		t.Error(e, otherE, before, "has become", room[:cap(room)])
	}
	apart(t, spoilt, slices.Concat(regsOf(l), cellsOf(x), regsOf(links), cellsOf(virts))...)
	for n := range room {
		room[n] = 0xEE
	}
	l[0], x[0] = api.Link{Fn: mark}, api.Virt{Rec: mark}
	_, _ = append(l, api.Link{Fn: mark}), append(x, api.Virt{Rec: mark})
	wantText(t, "the links", links, someLinks())
	wantText(t, "the Virts", virts, encodable())
}

// TestSharedLists: lists that share memory with one another are as good as others.
func TestSharedLists(t *testing.T) { // P2
	one := list(v(0), c(3), v(1), w(0))
	l := []api.Link{plain(-1, one...), plain(0, one[2:]...), plain(1, one[:2]...)}
	x := []api.Virt{virt(0, one...), virt(1, one[1:]...)}
	wantEncoded(t, l, x)
	wantRebuilt(t, 1, api.Trace{Links: l, Virts: x}, 2, nums(num(1), num(2)))
	s := shelfOf(t)
	s.wantAdd(2, 3, l...)
	s.wantAdd(2, 3, copiedLinks(l)...)
}
