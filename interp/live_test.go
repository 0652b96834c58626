package interp

import (
	"fmt"
	"math/rand"
	"slices"
	"testing"

	"swath/api"
	"swath/live"
)

// deadRegs are the registers of frames that are not live, by the frame's number; that which waits for an answer, too, is read by nobody ahead of it.
func deadRegs(frames []api.Frame, tables [][][]int) [][]int {
	l := make([][]int, len(frames))
	for n, f := range frames {
		for r := range f.Regs {
			waits := n+1 < len(frames) && frames[n+1].Into == r
			if waits || !slices.Contains(tables[f.Fn][f.Pc], r) {
				l[n] = append(l[n], r)
			}
		}
	}
	return l
}

// change changes registers that are not live, each with a chance of one in so many, and answers how many.
func (m maker) change(t *testing.T, a *Machine, tables [][][]int, often int) int {
	t.Helper()
	l := a.Frames()
	changed := 0
	for n, dead := range deadRegs(l, tables) {
		for _, r := range dead {
			if m.Intn(often) == 0 {
				l[n].Regs[r] = m.value()
				changed++
			}
		}
	}
	if e := a.SetFrames(l); e != api.OK {
		t.Fatal(e)
	}
	return changed
}

// wantLiveAlone wants the result to stay with what is not live changed: all of it at one time, some of it and all of it at every time.
// It answers how many instructions the run has, and how many registers were changed.
func (m maker) wantLiveAlone(t *testing.T, c api.Code, g given) (int, int) {
	t.Helper()
	var tables [][][]int
	for _, f := range c.Funcs {
		tables = append(tables, live.Tables(f))
	}
	want := made(t, c, g)
	length, changed := 1, 0
	for ; want.Next() == api.GoOn && length < 2000; length++ {
	}
	once := m.Intn(length)
	for way := range 3 {
		a := made(t, c, g)
		for n := range length {
			switch {
			case way == 0 && n == once, way == 1:
				changed += m.change(t, a, tables, 1)
			case way == 2:
				changed += m.change(t, a, tables, 3)
			}
			if i, _ := a.Here(); a.Next() == api.Ended && n < length-1 {
				t.Fatalf("%v ends it as number %d of %d in\n%.3000s", i, n, length, shown(c))
			}
		}
		if r := a.Result(); !sameResult(r, want.Result()) || told(nil, r, a.Heap().Root(), things(a.Heap())) != told(nil, r, want.Heap().Root(), things(want.Heap())) {
			t.Fatalf("%.600s; wanted %.600s in\n%.3000s", fmt.Sprint(r), fmt.Sprint(want.Result()), shown(c))
		}
	}
	return length, changed
}

func TestLiveAloneByChance(t *testing.T) { // P13.8
	m := maker{rand.New(rand.NewSource(135))}
	length, changed := 0, 0
	for range 700 {
		n, k := m.wantLiveAlone(t, m.code(), m.given())
		length, changed = length+n, changed+k
	}
	if length < 700*15 || changed < length {
		t.Error(length, changed)
	}
}

func TestLiveAloneOfDescriptions(t *testing.T) { // P13.8
	m := maker{rand.New(rand.NewSource(136))}
	all := slices.Clone(descriptions)
	for range 300 {
		all = append(all, m.description())
	}
	changed := 0
	for _, s := range all {
		_, c := lowered(t, s)
		_, n := m.wantLiveAlone(t, c, given{[]int64{3, 1, 2}, []int64{6, 0, 9}, api.Limits{Fuel: 300, Depth: 12, Cells: 100}})
		changed += n
	}
	if changed < 3000 {
		t.Error(changed)
	}
}

// TestLiveCounts: a register that is live is no such one: changed, it changes the result.
func TestLiveCounts(t *testing.T) { // P13.8
	c := mainOf(3, insNum(0, 5), insNum(1, 6), insNum(2, 7), insOut(0), insBin(0, 1, 1, api.OpAdd), insRet(0))
	tables := live.Tables(c.Funcs[0])
	for at := range c.Funcs[0].Code {
		for r := range 3 {
			m := made(t, c, wide)
			for range at {
				next(t, m)
			}
			l := m.Frames()
			l[0].Regs[r].N += 100
			if e := m.SetFrames(l); e != api.OK {
				t.Fatal(e)
			}
			for m.Next() == api.GoOn {
			}
			if stays := sameResult(m.Result(), api.Result{Value: num(12), Out: []int64{5}}); stays == slices.Contains(tables[at], r) {
				t.Error(at, r, m.Result())
			}
		}
	}
}
