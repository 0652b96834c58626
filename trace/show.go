package trace

import (
	"strconv"
	"strings"

	"swath/api"
)

// shown is Show's answer.
func shown(t api.Trace) string {
	var b strings.Builder
	b.WriteString("trace " + strconv.Itoa(t.Fn) + " " + strconv.Itoa(t.Pc) + " " + numbers(t.Ins) + "\n")
	for n, o := range t.Ops {
		b.WriteString(operation(len(t.Ins)+n, o) + "\n")
	}
	b.WriteString("back" + sources(t.Back) + "\n")
	for n, l := range t.Links {
		b.WriteString("l" + strconv.Itoa(n) + " up" + strconv.Itoa(l.Up) + " " + strconv.Itoa(l.Fn) + ":" + strconv.Itoa(l.Pc) +
			" " + strconv.Itoa(l.Into) + sources(l.Regs) + "\n")
	}
	for n, v := range t.Virts {
		b.WriteString("w" + strconv.Itoa(n) + " r" + strconv.Itoa(v.Rec) + sources(v.Cells) + "\n")
	}
	return b.String()
}

// numbers are numbers with commas between.
func numbers(l []int) string {
	var texts []string
	for _, n := range l {
		texts = append(texts, strconv.Itoa(n))
	}
	return strings.Join(texts, ",")
}

// operation is an operation as a text; variable is the one that it makes, if it makes one.
func operation(variable int, o api.Op) string {
	what := rowOf(o.Op)
	text := what.name + sources(o.Args)
	if what.makes {
		text = "v" + strconv.Itoa(variable) + " = " + text
	}
	if o.K != 0 {
		text += " k" + strconv.FormatInt(o.K, 10)
	}
	if o.C != 0 {
		text += " c" + strconv.Itoa(o.C)
	}
	if o.Snap != -1 {
		text += " !" + strconv.Itoa(o.Snap)
	}
	return text
}

// sources are sources, each with a blank ahead.
func sources(l []api.Src) string {
	var b strings.Builder
	for _, s := range l {
		b.WriteString(" " + source(s))
	}
	return b.String()
}

func source(s api.Src) string {
	switch s.Kind {
	case api.SrcConst:
		return value(s.Val)
	case api.SrcVar:
		return "v" + strconv.Itoa(s.N)
	case api.SrcVirt:
		return "w" + strconv.Itoa(s.N)
	}
	return "?"
}

// value is a value by its kind alone: no heap is here to tell what is odd in it.
func value(v api.Value) string {
	switch v.Kind {
	case api.Int:
		return strconv.FormatInt(v.N, 10)
	case api.Null:
		return "null"
	case api.Ref:
		return "@" + strconv.FormatInt(v.N, 10)
	}
	return "?"
}
