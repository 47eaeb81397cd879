package automaton

import (
	"cmp"
	"slices"

	"latchstring/api"
	"latchstring/mode"
	"latchstring/name"
)

// order is that of the elements of a state.
func order(a, b api.Held) int {
	return cmp.Or(cmp.Compare(a.Txn, b.Txn), name.Compare(a.Name, b.Name))
}

func isState(l []api.Held) bool {
	for i, h := range l {
		if i > 0 && order(l[i-1], h) >= 0 {
			return false
		}
		if !acquirable(h.Name, h.Mode) {
			return false
		}
	}
	return true
}

// clash reports whether a state has two elements of one name that are not compatible.
func clash(l []api.Held) bool {
	// How many hold a name in each mode: pairs are too many where many share a name.
	type counts [api.X + 1]int
	holders := map[api.Name]counts{}
	for _, h := range l {
		c := holders[h.Name]
		c[h.Mode]++
		holders[h.Name] = c
	}
	return slices.ContainsFunc(l, func(h api.Held) bool {
		others := holders[h.Name]
		others[h.Mode]--
		for m, count := range others {
			if count > 0 && !mode.Compatible(h.Mode, api.Mode(m)) {
				return true
			}
		}
		return false
	})
}

// find returns where a state has, or would have, what txn holds of n, and whether it has it.
func find(s []api.Held, txn int, n api.Name) (int, bool) {
	return slices.BinarySearchFunc(s, api.Held{Txn: txn, Name: n}, order)
}
