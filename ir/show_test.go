package ir

import (
	"fmt"
	"math"
	"strings"
	"testing"

	"swath/api"
)

func wantShown(t *testing.T, f api.Func, want string) {
	t.Helper()
	if s := Show(f); s != want {
		t.Errorf("shown as %q; wanted %q", s, want)
	}
}

// text is what Show is to answer of a function, by the chapter's table.
func text(f api.Func) string {
	s := fmt.Sprintf("fn %s %d %d\n", f.Name, f.Params, f.Regs)
	for n, i := range f.Code {
		if i.Op < 1 || i.Op > ops {
			s += fmt.Sprintf("%d: ?\n", n)
			continue
		}
		s += fmt.Sprintf("%d: %s", n, lines[i.Op].name)
		for _, field := range lines[i.Op].fields {
			l := strings.ReplaceAll(strings.Trim(fmt.Sprint(i.L), "[]"), " ", ",")
			s += fmt.Sprintf(" %s=%v", field, map[string]any{"A": i.A, "B": i.B, "C": i.C, "K": i.K, "L": l}[field])
		}
		s += "\n"
	}
	return s
}

func TestShowEach(t *testing.T) { // P10.2
	want := strings.Fields(`num_A=1_K=-7 null_A=1 move_A=1_B=2 bin_A=1_B=2_C=3_K=4 un_A=1_B=2_K=14 eq_A=1_B=2_C=3 ne_A=1_B=2_C=3
get_A=1_B=2_C=3_K=4 put_A=1_B=2_C=3_K=4 elem_A=1_B=2_C=3 setelem_A=1_B=2_C=3 len_A=1_B=2 new_A=1_C=3_K=4 arr_A=1_B=2 in_A=1 out_A=1 img_A=1_B=2
size_A=1 root_A=1 setroot_A=1 jump_K=3 zero_A=1_K=3 call_A=1_K=1_L=4,0 ret_A=1 stop_A=1 step merge_K=1_L=3,0,2 promote_A=1_B=2`)
	all := api.Func{Name: "all", Params: 3, Regs: 5}
	shown := "fn all 3 5\n"
	for op := 1; op <= ops; op++ {
		line := strings.ReplaceAll(want[op-1], "_", " ") + "\n"
		wantShown(t, api.Func{Code: []api.Ins{sample(op)}}, "fn  0 0\n0: "+line)
		all.Code = append(all.Code, sample(op))
		shown += fmt.Sprint(op-1) + ": " + line
	}
	wantShown(t, all, shown)
	if text(all) != shown {
		t.Error(text(all))
	}
}

func TestShowHead(t *testing.T) { // P10.2
	wantShown(t, api.Func{}, "fn  0 0\n")
	wantShown(t, api.Func{Name: "f", Params: 1, Regs: 2, Code: []api.Ins{}}, "fn f 1 2\n")
	wantShown(t, api.Func{Name: "\xff \n%d\x00é", Params: -1, Regs: -1000}, "fn \xff \n%d\x00é -1 -1000\n")
	wantShown(t, api.Func{Name: "x", Params: math.MaxInt, Regs: math.MinInt}, "fn x 9223372036854775807 -9223372036854775808\n")
}

func TestShowOpsThatAreNone(t *testing.T) { // P10.2
	for _, op := range oddOps {
		i := api.Ins{Op: op, A: 1, B: 2, C: 3, K: 4, L: []int{5}}
		wantShown(t, api.Func{Name: "f", Code: []api.Ins{i, sample(api.InsStep), i}}, "fn f 0 0\n0: ?\n1: step\n2: ?\n")
	}
}

func TestShowLists(t *testing.T) { // P10.2
	for _, l := range []struct {
		numbers []int
		text    string
	}{
		{nil, ""}, {[]int{}, ""}, {[]int{7, 8}[:0], ""}, {[]int{0}, "0"}, {[]int{-1}, "-1"}, {[]int{1, 2}, "1,2"}, {[]int{3, 3, 3}, "3,3,3"},
		{[]int{10, -20, 0, math.MinInt, math.MaxInt}, "10,-20,0,-9223372036854775808,9223372036854775807"},
	} {
		wantShown(t, api.Func{Code: []api.Ins{{Op: api.InsCall, L: l.numbers}}}, "fn  0 0\n0: call A=0 K=0 L="+l.text+"\n")
		wantShown(t, api.Func{Code: []api.Ins{{Op: api.InsMerge, K: -2, L: l.numbers}}}, "fn  0 0\n0: merge K=-2 L="+l.text+"\n")
		// Where there is no L none is shown.
		wantShown(t, api.Func{Code: []api.Ins{{Op: api.InsRet, L: l.numbers}}}, "fn  0 0\n0: ret A=0\n")
	}
}

func TestShowAnyNumbers(t *testing.T) { // P10.2
	for op := 1; op <= ops; op++ {
		for _, n := range []int{0, -1, 1000, math.MaxInt, math.MinInt} {
			wantText(t, api.Func{Code: []api.Ins{{Op: op, A: n, B: n, C: n, K: int64(n), L: []int{n, n}}}})
		}
	}
}

// wantText wants a function to be shown as the table says.
func wantText(t *testing.T, f api.Func) {
	t.Helper()
	wantShown(t, f, text(f))
}

func TestShowMany(t *testing.T) { // P10.2
	f := api.Func{Name: "long", Regs: 9}
	var want strings.Builder
	want.WriteString("fn long 0 9\n")
	for n := range 100000 {
		f.Code = append(f.Code, api.Ins{Op: api.InsOut, A: n})
		fmt.Fprintf(&want, "%d: out A=%d\n", n, n)
	}
	if Show(f) != want.String() {
		t.Error("long code is shown otherwise")
	}
}
