package pool

import (
	"sort"
)

// freeHeap is the free numbers, for package heap, with the smallest one at index 0; the slice that is embedded has the other methods that this package asks for.
type freeHeap struct{ sort.IntSlice }

// Push puts a number at the end of the slice.
func (h *freeHeap) Push(x any) { h.IntSlice = append(h.IntSlice, x.(int)) }

// Pop takes the number at the end of the slice away.
func (h *freeHeap) Pop() any {
	last := h.Len() - 1
	id := h.IntSlice[last]
	h.IntSlice = h.IntSlice[:last]
	return id
}
