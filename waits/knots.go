package waits

import (
	"slices"

	"latchstring/api"
)

// A knot is transactions that reach each other, or a single one.
type knot struct {
	first int  // the place of its first transaction among those that are open
	loops bool // whether its transactions reach themselves
}

// A walk goes along edges in depth, and ties together what turns out to be on one cycle. It goes along each edge once, where a search from each transaction would go along all of them again and again.
type walk struct {
	edges []api.Edge  // sorted
	next  map[int]int // for each transaction that it came to: the place of the edge that comes next
	place map[int]int // for each transaction that it came to: its place among those that are open, or closed
	path  []int       // the transactions from the one where it began to the one where it is
	open  []int       // the transactions of the knots that may still grow, one knot after the other
	knots []knot      // these knots
	found bool        // whether some transaction reaches itself
	least int         // the smallest such one
}

// What stands for the place of a transaction whose knot can't grow any more.
const closed = -1

// looping returns the smallest transaction that reaches itself by the edges of a sorted list, and whether there is one.
func looping(l []api.Edge) (int, bool) {
	w := &walk{edges: l, next: map[int]int{}, place: map[int]int{}}
	for _, e := range l {
		// Whoever the walk did not come to yet is not smaller than e.From.
		if w.found && w.least <= e.From {
			break
		}
		w.from(e.From)
	}
	return w.least, w.found
}

// from goes to all that a transaction reaches.
func (w *walk) from(txn int) {
	w.meet(txn)
	for len(w.path) > 0 {
		txn := w.path[len(w.path)-1]
		i := w.next[txn]
		if i == len(w.edges) || w.edges[i].From != txn {
			w.leave(txn)
			continue
		}
		w.next[txn]++
		w.meet(w.edges[i].To)
	}
}

// meet goes to a transaction, or ties the end of the path to it if it is open.
func (w *walk) meet(txn int) {
	place, is := w.place[txn]
	switch {
	case !is:
		w.next[txn] = start(w.edges, txn)
		w.place[txn] = len(w.open)
		w.knots = append(w.knots, knot{first: len(w.open)})
		w.open = append(w.open, txn)
		w.path = append(w.path, txn)
	case place != closed:
		w.tie(place)
	}
}

// tie makes one knot of all that are open from a place on, as an edge led back to that one from the end of the path.
func (w *walk) tie(place int) {
	last := len(w.knots) - 1
	for w.knots[last].first > place {
		last--
	}
	w.knots = w.knots[:last+1]
	w.knots[last].loops = true
}

// leave goes back on the path. What was tied to the transaction, and to none before it, can't grow any more.
func (w *walk) leave(txn int) {
	w.path = w.path[:len(w.path)-1]
	last := len(w.knots) - 1
	k := w.knots[last]
	if w.place[txn] > k.first {
		return
	}
	if k.loops {
		w.note(slices.Min(w.open[k.first:]))
	}
	for _, other := range w.open[k.first:] {
		w.place[other] = closed
	}
	w.open, w.knots = w.open[:k.first], w.knots[:last]
}

// note keeps the smallest transaction that reaches itself.
func (w *walk) note(txn int) {
	if !w.found || txn < w.least {
		w.found, w.least = true, txn
	}
}
