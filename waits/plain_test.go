package waits_test

import (
	"slices"

	"latchstring/api"
	"latchstring/mode"
)

// This is the chapter's words, read one by one: each question looks at all edges, all members, and all sequences of them.

func edges(ends ...int) []api.Edge {
	var l []api.Edge
	for i := 0; i < len(ends); i += 2 {
		l = append(l, api.Edge{From: ends[i], To: ends[i+1]})
	}
	return l
}

func plainBefore(a, b api.Edge) bool {
	return a.From < b.From || a.From == b.From && a.To < b.To
}

// plainSorted puts one edge after the other in its place, unless it is there.
func plainSorted(l []api.Edge) []api.Edge {
	var out []api.Edge
	for _, e := range l {
		i := 0
		for i < len(out) && plainBefore(out[i], e) {
			i++
		}
		if i == len(out) || out[i] != e {
			out = slices.Insert(out, i, e)
		}
	}
	return out
}

func members(l []api.Edge) []int {
	var out []int
	for _, e := range l {
		out = append(out, e.From, e.To)
	}
	slices.Sort(out)
	return slices.Compact(out)
}

// plainReach adds what one more edge reaches, until nothing is added.
func plainReach(l []api.Edge, from int) []int {
	var out []int
	for n := -1; n < len(out); {
		n = len(out)
		for _, e := range l {
			if (e.From == from || slices.Contains(out, e.From)) && !slices.Contains(out, e.To) {
				out = append(out, e.To)
			}
		}
	}
	slices.Sort(out)
	return out
}

// plainCycle tries all sequences of different members that begin with the first one that reaches itself, the shortest ones first, in order.
func plainCycle(l []api.Edge) ([]int, bool) {
	all := members(l)
	for _, first := range all {
		if !slices.Contains(plainReach(l, first), first) {
			continue
		}
		for n := 1; ; n++ {
			if c := plainCycleOf(l, all, []int{first}, n); c != nil {
				return c, true
			}
		}
	}
	return nil, false
}

// plainCycleOf returns the first cycle with n members that begins with those of path, or nothing.
func plainCycleOf(l []api.Edge, all, path []int, n int) []int {
	if len(path) == n {
		if slices.Contains(l, api.Edge{From: path[n-1], To: path[0]}) {
			return slices.Clone(path)
		}
		return nil
	}
	for _, txn := range all {
		if slices.Contains(path, txn) || !slices.Contains(l, api.Edge{From: path[len(path)-1], To: txn}) {
			continue
		}
		if c := plainCycleOf(l, all, append(slices.Clip(path), txn), n); c != nil {
			return c
		}
	}
	return nil
}

func plainWithout(l []api.Edge, txn int) []api.Edge {
	var out []api.Edge
	for _, e := range l {
		if e.From != txn && e.To != txn {
			out = append(out, e)
		}
	}
	return out
}

// plainEdges asks of each two requests whether one waits because of the other (chapter 9).
func plainEdges(l []api.Head) []api.Edge {
	var out []api.Edge
	for _, h := range l {
		for i, r := range h.Queue {
			for j, a := range h.Queue {
				if r.Since > 0 && i != j && blocks(a, r, j < i) {
					out = append(out, api.Edge{From: r.Txn, To: a.Txn})
				}
			}
		}
	}
	return plainSorted(out)
}

// blocks reports whether r, which waits, does so because of a, which stands earlier in the queue or not.
func blocks(a, r api.Request, earlier bool) bool {
	holds, grows := a.Mode != api.None, a.Mode != api.None && a.Since > 0
	switch {
	case holds && !mode.Compatible(a.Mode, r.Want):
		return true
	case r.Mode != api.None:
		return grows && a.Since < r.Since
	}
	return grows || !holds && earlier
}
