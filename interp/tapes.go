package interp

import (
	"swath/api"
	"swath/heap"
)

// Heap is the run's heap: P13.5.
func (m *Machine) Heap() *heap.Heap {
	if !m.alive() {
		return nil
	}
	return m.heap
}

// Step takes a step, if one is left: P13.5.
func (m *Machine) Step() bool {
	if !m.alive() || m.steps == m.fuel {
		return false
	}
	m.steps++
	m.idle = 0
	return true
}

// In is the next number of the input, or null behind the last one: P13.5.
func (m *Machine) In() api.Value {
	if !m.alive() {
		return api.Value{}
	}
	if m.read == len(m.input) {
		return api.Value{Kind: api.Null}
	}
	m.read++
	return api.Value{N: m.input[m.read-1]}
}

// Out puts out a number: P13.5.
func (m *Machine) Out(v api.Value) int {
	if !m.alive() || v.Kind != api.Int {
		return api.TrapType
	}
	m.out = append(m.out, v.N)
	return 0
}

// Img is a number of the image: P13.5.
func (m *Machine) Img(v api.Value) (api.Value, int) {
	if !m.alive() || v.Kind != api.Int {
		return api.Value{}, api.TrapType
	}
	if v.N < 0 || v.N >= int64(len(m.image)) {
		return api.Value{}, api.TrapIndex
	}
	return api.Value{N: m.image[v.N]}, 0
}
