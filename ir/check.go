package ir

import "swath/api"

// The bounds that the chapter gives as numbers.
const (
	maxRegs = 1000
	maxCode = 100000
	maxCell = 1000
	maxSort = 1000
)

// fault is what is thrown where code is wrong.
type fault struct {
	function    int
	instruction int
}

// judged is Check's answer.
func judged(c api.Code) (function, instruction int, e api.Errno) {
	defer func() {
		switch thrown := recover().(type) {
		case nil:
		case fault:
			function, instruction, e = thrown.function, thrown.instruction, api.ErrCode
		default:
			panic(thrown)
		}
	}()
	j := judge{code: c, merges: map[int64]struct{}{}}
	j.whole()
	return 0, 0, api.OK
}

// judge holds code against the rules: at is the function and the instruction that it looks at, merges are the numbers that it has met.
type judge struct {
	code   api.Code
	merges map[int64]struct{}
	at     fault
}

// want throws where the judge is, unless a rule is kept.
func (j *judge) want(kept bool) {
	if !kept {
		panic(j.at)
	}
}

// wantWithin wants a number from least to most.
func (j *judge) wantWithin(n, least, most int64) {
	j.want(n >= least && n <= most)
}

func (j *judge) whole() {
	j.want(j.code.Merges >= 0)
	// Of code with no functions no Main is one.
	j.wantWithin(int64(j.code.Main), 0, int64(len(j.code.Funcs))-1)
	j.want(j.code.Funcs[j.code.Main].Params == 0)
	for n, f := range j.code.Funcs {
		j.at = fault{function: n}
		j.function(f)
	}
}

func (j *judge) function(f api.Func) {
	j.want(f.Params >= 0 && f.Params <= f.Regs && f.Regs <= maxRegs)
	j.wantWithin(int64(len(f.Code)), 1, maxCode)
	for n, i := range f.Code {
		j.at.instruction = n
		j.instruction(f, i)
	}
	// It is the last instruction that the judge is at now.
	j.want(endsFunction(f.Code[len(f.Code)-1].Op))
}

// endsFunction tells whether code never goes on just behind such an instruction.
func endsFunction(op int) bool {
	return op == api.InsJump || op == api.InsRet || op == api.InsStop
}

func (j *judge) instruction(f api.Func, i api.Ins) {
	j.want(row(i.Op) > 0)
	has := fields[i.Op]
	for _, n := range registers(i, has) {
		j.want(n >= 0 && n < f.Regs)
	}
	for _, letter := range has {
		switch letter {
		case 'c':
			j.wantWithin(int64(i.C), 0, maxCell)
		case 'K':
			j.number(f, i)
		}
	}
	j.want(sameIns(without(i, has), api.Ins{Op: i.Op}))
}

// number looks at the K of an instruction that has one, and at how many registers it wants in L.
func (j *judge) number(f api.Func, i api.Ins) {
	switch i.Op {
	case api.InsBin:
		j.wantWithin(i.K, api.OpAdd, api.OpLe)
	case api.InsUn:
		j.wantWithin(i.K, api.OpNeg, api.OpFlip)
	case api.InsGet, api.InsPut, api.InsNew:
		j.wantWithin(i.K, 0, maxSort)
	case api.InsJump, api.InsZero:
		j.wantWithin(i.K, 0, int64(len(f.Code))-1)
		j.want(i.K != int64(j.at.instruction))
	case api.InsCall:
		j.wantWithin(i.K, 0, int64(len(j.code.Funcs))-1)
		j.want(len(i.L) == j.code.Funcs[i.K].Params)
	case api.InsMerge:
		j.merge(i)
	}
}

func (j *judge) merge(i api.Ins) {
	j.wantWithin(i.K, 0, int64(j.code.Merges)-1)
	_, met := j.merges[i.K]
	j.want(!met)
	j.merges[i.K] = struct{}{}
	j.want(len(i.L) <= api.MaxGreens)
}
