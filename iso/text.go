package iso

import (
	"strconv"

	"swath/api"
	"swath/heap"
)

// mostShown is how many things a text tells at most.
const mostShown = 100000

// piece is a text and, if it tells one, a value behind it.
type piece struct {
	text  string
	tells bool
	v     api.Value
}

// Show is the values of l and what is reached from them, as a text: P3.3.
func Show(h *heap.Heap, l []api.Value) string {
	places := map[int64]int{}
	for n := range things(h, l) {
		if len(places) == mostShown {
			return ""
		}
		places[n] = len(places)
	}
	var text []byte
	shown := 0
	add, all := waiting[piece]()
	add(pieces("", l, ""))
	for p := range all {
		text = append(text, p.text...)
		if !p.tells {
			continue
		}
		place, is := places[p.v.N]
		if p.v.Kind != api.Ref || !is {
			text = append(text, plain(p.v)...)
			continue
		}
		text = append(text, '@')
		text = strconv.AppendInt(text, int64(place), 10)
		// Things are met here in the order of their places, so the next place is one that is new.
		if place == shown {
			shown++
			o, _ := h.Obj(p.v)
			add(body(o))
		}
	}
	return string(text)
}

// body is what stands behind a thing's place the first time.
func body(o api.Obj) []piece {
	if o.Rec < 0 {
		return append([]piece{{text: "["}}, pieces("", o.Cells, "]")...)
	}
	return append([]piece{{text: "{" + strconv.Itoa(o.Rec)}}, pieces(" ", o.Cells, "}")...)
}

// pieces are values with a blank between, a text ahead of the first and one behind all.
func pieces(ahead string, l []api.Value, behind string) []piece {
	var all []piece
	for _, v := range l {
		all = append(all, piece{ahead, true, v})
		ahead = " "
	}
	return append(all, piece{text: behind})
}

// plain is a value that is no thing, as a text.
func plain(v api.Value) string {
	if v.Kind == api.Int {
		return strconv.FormatInt(v.N, 10)
	}
	if v == (api.Value{Kind: api.Null}) {
		return "null"
	}
	return "?"
}
