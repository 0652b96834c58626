package heap

import "swath/api"

// find is the thing that v is, or the trap of asking for it.
func (h *Heap) find(v api.Value) (thing, int) {
	if !h.alive() {
		return nil, api.TrapType
	}
	if v.Kind == api.Null {
		return nil, api.TrapNull
	}
	if v.Kind != api.Ref || v.N < 0 || v.N >= int64(len(h.things)) {
		return nil, api.TrapType
	}
	return h.things[v.N], 0
}

// field is where a record's cell lies.
func (h *Heap) field(v api.Value, rec, at int) (*api.Value, int) {
	t, trap := h.find(v)
	if trap != 0 {
		return nil, trap
	}
	// A sort below 0 is none, though arrays are told by -1.
	if rec < 0 || sortOf(t) != rec {
		return nil, api.TrapType
	}
	cells := t.view()
	if at < 0 || at >= len(cells) {
		return nil, api.TrapType
	}
	return &cells[at], 0
}

// elems are an array's cells.
func (h *Heap) elems(v api.Value) ([]api.Value, int) {
	t, trap := h.find(v)
	if trap != 0 {
		return nil, trap
	}
	if sortOf(t) >= 0 {
		return nil, api.TrapType
	}
	return t.view(), 0
}

// elem is where an array's cell lies.
func (h *Heap) elem(v, at api.Value) (*api.Value, int) {
	cells, trap := h.elems(v)
	if trap != 0 {
		return nil, trap
	}
	if at.Kind != api.Int {
		return nil, api.TrapType
	}
	if at.N < 0 || at.N >= int64(len(cells)) {
		return nil, api.TrapIndex
	}
	return &cells[at.N], 0
}

// Field is a cell of a record of sort rec: P2.4.
func (h *Heap) Field(v api.Value, rec, at int) (api.Value, int) {
	cell, trap := h.field(v, rec, at)
	if trap != 0 {
		return api.Value{}, trap
	}
	return *cell, 0
}

// SetField lays x into a cell of a record of sort rec: P2.4.
func (h *Heap) SetField(v api.Value, rec, at int, x api.Value) int {
	cell, trap := h.field(v, rec, at)
	if trap == 0 {
		*cell = x
	}
	return trap
}

// Elem is a cell of an array: P2.5.
func (h *Heap) Elem(v, at api.Value) (api.Value, int) {
	cell, trap := h.elem(v, at)
	if trap != 0 {
		return api.Value{}, trap
	}
	return *cell, 0
}

// SetElem lays x into a cell of an array: P2.5.
func (h *Heap) SetElem(v, at, x api.Value) int {
	cell, trap := h.elem(v, at)
	if trap == 0 {
		*cell = x
	}
	return trap
}

// Len is how many cells an array has: P2.5.
func (h *Heap) Len(v api.Value) (api.Value, int) {
	cells, trap := h.elems(v)
	return api.Value{N: int64(len(cells))}, trap
}

// Obj is the thing that v is, in new memory: P2.6.
func (h *Heap) Obj(v api.Value) (api.Obj, bool) {
	t, trap := h.find(v)
	if trap != 0 {
		return api.Obj{}, false
	}
	return api.Obj{Rec: sortOf(t), Cells: copied(t.view())}, true
}
