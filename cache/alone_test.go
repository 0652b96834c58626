package cache

import (
	"fmt"
	"slices"
	"testing"

	"swath/api"
)

// mark stands wherever a list has been overwritten.
const mark = -987654

// list is one of a trace's lists: how it looks without the lists within it, how many there is room for, and what overwrites it as far as there is room.
type list struct {
	name  string
	text  func() string
	spoil func()
}

// listsOf are all lists of a trace.
func listsOf(t *api.Trace) []list {
	l := []list{
		{"Ins", func() string { return fmt.Sprint(t.Ins) }, func() { fill(t.Ins, mark) }},
		{"Back", func() string { return fmt.Sprint(t.Back) }, func() { fill(t.Back, spoilt) }},
		{"Ops", func() string { return flatOps(t.Ops) }, func() { spoilOps(t.Ops) }},
		{"Links", func() string { return flatLinks(t.Links) }, func() { spoilLinks(t.Links) }},
		{"Virts", func() string { return flatVirts(t.Virts) }, func() { spoilVirts(t.Virts) }},
	}
	sources := func(name string, of []api.Src) {
		l = append(l, list{name, func() string { return fmt.Sprint(of) }, func() { fill(of, spoilt) }})
	}
	for n := range t.Ops {
		sources("Args", t.Ops[n].Args)
	}
	for n := range t.Links {
		sources("Regs", t.Links[n].Regs)
	}
	for n := range t.Virts {
		sources("Cells", t.Virts[n].Cells)
	}
	return l
}

var spoilt = api.Src{Kind: mark, Val: api.Value{Kind: mark, N: mark}, N: mark}

// fill overwrites a list, and what lies behind its length.
func fill[T any](l []T, v T) {
	l = l[:cap(l)]
	for n := range l {
		l[n] = v
	}
}

func flatOps(l []api.Op) string {
	s := ""
	for _, o := range l {
		s += fmt.Sprint(o.Op, o.K, o.C, o.Snap, ";")
	}
	return s
}

func flatLinks(l []api.Link) string {
	s := ""
	for _, o := range l {
		s += fmt.Sprint(o.Up, o.Fn, o.Pc, o.Into, ";")
	}
	return s
}

func flatVirts(l []api.Virt) string {
	s := ""
	for _, o := range l {
		s += fmt.Sprint(o.Rec, ";")
	}
	return s
}

func spoilOps(l []api.Op) {
	for n := range l {
		o := &l[n]
		o.Op, o.K, o.C, o.Snap = mark, mark, mark, mark
	}
	fill(l[len(l):], api.Op{Op: mark})
}

func spoilLinks(l []api.Link) {
	for n := range l {
		o := &l[n]
		o.Up, o.Fn, o.Pc, o.Into = mark, mark, mark, mark
	}
	fill(l[len(l):], api.Link{Up: mark})
}

func spoilVirts(l []api.Virt) {
	for n := range l {
		l[n].Rec = mark
	}
	fill(l[len(l):], api.Virt{Rec: mark})
}

// spoil overwrites a trace whole.
func spoil(t *api.Trace) {
	for _, l := range listsOf(t) {
		l.spoil()
	}
	t.Key = api.Key{Merge: mark}
	t.Fn, t.Pc = mark, mark
}

// roomy is the same trace, each of its lists with marks behind its length.
func roomy(t api.Trace) api.Trace {
	sources := func(l []api.Src) []api.Src { return withRoom(l, spoilt) }
	t.Ins = withRoom(t.Ins, mark)
	t.Ops = withRoom(t.Ops, api.Op{Op: mark, Args: []api.Src{spoilt}})
	for n := range t.Ops {
		t.Ops[n].Args = sources(t.Ops[n].Args)
	}
	t.Links = withRoom(t.Links, api.Link{Up: mark, Regs: []api.Src{spoilt}})
	for n := range t.Links {
		t.Links[n].Regs = sources(t.Links[n].Regs)
	}
	t.Virts = withRoom(t.Virts, api.Virt{Rec: mark, Cells: []api.Src{spoilt}})
	for n := range t.Virts {
		t.Virts[n].Cells = sources(t.Virts[n].Cells)
	}
	t.Back = sources(t.Back)
	return t
}

func withRoom[T any](l []T, v T) []T {
	room := append(slices.Clone(l), v, v, v)
	return room[:len(l)]
}

// whole is a trace as a text, with what lies behind its lists.
func whole(t api.Trace) string {
	s := fmt.Sprint(t.Ins[:cap(t.Ins)], t.Ops[:cap(t.Ops)], t.Links[:cap(t.Links)], t.Virts[:cap(t.Virts)], t.Back[:cap(t.Back)])
	for _, o := range t.Ops {
		s += fmt.Sprint(o.Args[:cap(o.Args)])
	}
	for _, o := range t.Links {
		s += fmt.Sprint(o.Regs[:cap(o.Regs)])
	}
	for _, o := range t.Virts {
		s += fmt.Sprint(o.Cells[:cap(o.Cells)])
	}
	return s + text(t)
}

// TestTraceIsNotChanged: neither by Put nor by what comes behind it.
func TestTraceIsNotChanged(t *testing.T) { // P2
	c := New(1, nil)
	given := roomy(rich(key(1), 40))
	before := whole(given)
	c.Put(given)
	c.Fail(1, 0)
	c.Link(1, 0, 1)
	got, _, _ := c.Get(key(1))
	spoil(&got)
	c.Keys()
	c.Put(empty(2))
	c.Put(given)
	c.Drop(key(1))
	New(0, nil).Put(given)
	(*Cache)(nil).Put(given)
	if whole(given) != before {
		t.Error("the trace has changed:", whole(given))
	}
}

// TestTraceIsNotKept: changed behind Put it changes nothing inside, list by list and whole.
func TestTraceIsNotKept(t *testing.T) { // P2
	want := text(rich(key(1), 40))
	for n := range listsOf(new(rich(key(1), 40))) {
		c := New(1, nil)
		given := roomy(rich(key(1), 40))
		c.Put(given)
		l := listsOf(&given)[n]
		l.spoil()
		if got, id, is := c.Get(key(1)); text(got) != want || id != 1 || !is {
			t.Error(l.name, "is kept:", text(got))
		}
	}
	c := New(1, nil)
	given := roomy(rich(key(1), 40))
	c.Put(given)
	spoil(&given)
	if got, _, _ := c.Get(key(1)); text(got) != want {
		t.Error(text(got))
	}
	if k := c.Keys(); len(k) != 1 || k[0] != key(1) || !c.Drop(key(1)) {
		t.Error(k)
	}
}

// TestBehindLengths: what lies behind the lists of a trace that is put isn't handed out.
func TestBehindLengths(t *testing.T) { // P2
	c := New(1, nil)
	c.Put(roomy(rich(key(1), 40)))
	got, _, _ := c.Get(key(1))
	for _, op := range got.Ops[len(got.Ops):cap(got.Ops)] {
		if op.Op != 0 || op.Args != nil {
			t.Error(op)
		}
	}
	for _, link := range got.Links[len(got.Links):cap(got.Links)] {
		if link.Up != 0 || link.Regs != nil {
			t.Error(link)
		}
	}
	for _, virt := range got.Virts[len(got.Virts):cap(got.Virts)] {
		if virt.Rec != 0 || virt.Cells != nil {
			t.Error(virt)
		}
	}
	lists := [][]api.Src{got.Back}
	for _, op := range got.Ops {
		lists = append(lists, op.Args)
	}
	for _, link := range got.Links {
		lists = append(lists, link.Regs)
	}
	for _, virt := range got.Virts {
		lists = append(lists, virt.Cells)
	}
	for _, l := range lists {
		if slices.Contains(l[:cap(l)], spoilt) {
			t.Error(l[:cap(l)])
		}
	}
	if slices.Contains(got.Ins[:cap(got.Ins)], mark) {
		t.Error(got.Ins[:cap(got.Ins)])
	}
}

// TestAnswersAlone: what Get hands out is neither the cache's nor another answer's, and no list of it another one's.
func TestAnswersAlone(t *testing.T) { // P2
	c := New(1, nil)
	want := rich(key(1), 40)
	// All of these lists share one piece of memory.
	one := []api.Src{{N: 1}, {N: 2}, {N: 3}, {N: 4}}
	want.Ops[0].Args, want.Ops[1].Args, want.Ops[2].Args = one[:2], one[:2], one[1:3]
	want.Links[0].Regs, want.Links[1].Regs = one, one[2:]
	want.Virts[0].Cells, want.Virts[1].Cells = one[:1], one
	want.Back = one[:3]
	c.Put(want)
	count := len(listsOf(&want))
	for n := range count {
		first, _, _ := c.Get(key(1))
		second, _, _ := c.Get(key(1))
		var before []string
		for _, l := range listsOf(&first) {
			before = append(before, l.text())
		}
		listsOf(&first)[n].spoil()
		for m, l := range listsOf(&first) {
			if m != n && l.text() != before[m] {
				t.Error(l.name, m, "changes with list", n)
			}
			if m == n && l.text() == before[m] {
				t.Error(l.name, m, "was to be overwritten")
			}
		}
		third, _, _ := c.Get(key(1))
		if text(second) != text(want) || text(third) != text(want) {
			t.Error("another answer changes with list", n)
		}
	}
	if count != 5+3+2+2 {
		t.Error(count)
	}
}

func TestPicksAlone(t *testing.T) { // P2
	room := []int{1, 0, 1, 9, 9}
	before := slices.Clone(room)
	c := New(2, room[:3])
	d := New(2, room[:3])
	c.Put(empty(1))
	c.Put(empty(2))
	c.Put(empty(3)) // 1: 2 goes
	if !slices.Equal(room, before) {
		t.Fatal("the picks have changed:", room)
	}
	fill(room, 1)
	c.Put(empty(4)) // 0: 1 goes
	c.Put(empty(5)) // 1: 4 goes
	c.Put(empty(6)) // used up: 3 goes
	if k := c.Keys(); !slices.Equal(k, keys(5, 6)) {
		t.Error(k)
	}
	fill(room, 0)
	for n := range 5 {
		d.Put(empty(n + 1)) // 1: 2 goes; 0: 1; 1: 4
	}
	if k := d.Keys(); !slices.Equal(k, keys(3, 5)) {
		t.Error(k)
	}
}

func TestKeysAlone(t *testing.T) { // P2
	p := pairOf(t, 4, 1)
	for n := range 3 {
		p.put(empty(n))
	}
	first, second := p.cache.Keys(), p.cache.Keys()
	fill(first, key(mark))
	p.holds(0, 1, 2)
	if !slices.Equal(second, keys(0, 1, 2)) {
		t.Error(second)
	}
	p.drop(key(0))
	p.put(empty(3))
	p.put(empty(4))
	if !slices.Equal(second, keys(0, 1, 2)) {
		t.Error("what was told changes later:", second)
	}
	_ = append(p.cache.Keys()[:1], key(mark))
	p.holds(1, 2, 3, 4)
	p.put(empty(5)) // 1: 2 goes
	p.holds(1, 3, 4, 5)
}

// TestGotStays: a trace that was handed out stays as it is when it goes or another one comes with its key.
func TestGotStays(t *testing.T) { // P2
	c := New(1, nil)
	c.Put(rich(key(1), 40))
	got, _, _ := c.Get(key(1))
	c.Put(rich(key(1), 50))
	c.Put(rich(key(2), 60))
	c.Drop(key(2))
	if text(got) != text(rich(key(1), 40)) {
		t.Error(text(got))
	}
	// It may be put again as it came.
	c.Put(got)
	spoil(&got)
	if again, id, is := c.Get(key(1)); text(again) != text(rich(key(1), 40)) || id != 4 || !is {
		t.Error(text(again), id, is)
	}
}
