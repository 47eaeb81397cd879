package waits

import (
	"cmp"
	"slices"

	"latchstring/api"
)

// start returns the place in a sorted list at which the edges from a transaction begin.
func start(l []api.Edge, txn int) int {
	place, _ := slices.BinarySearchFunc(l, txn, func(e api.Edge, txn int) int { return cmp.Compare(e.From, txn) })
	return place
}

// search goes from a transaction along the edges of a sorted list until it has gone far enough, and returns for each transaction that it came to the one before it.
// The nearest ones come first, and of those equally near the ones with the first paths: so the way back from each is the first of its shortest paths.
func search(l []api.Edge, from int, enough func(txn int) bool) map[int]int {
	before := map[int]int{}
	line := []int{from}
search:
	for len(line) > 0 {
		txn := line[0]
		line = line[1:]
		for i := start(l, txn); i < len(l) && l[i].From == txn; i++ {
			to := l[i].To
			if _, is := before[to]; is {
				continue
			}
			before[to] = txn
			if enough(to) {
				break search
			}
			line = append(line, to)
		}
	}
	return before
}

// round returns the cycle that begins with a transaction to which a search from it came back.
func round(before map[int]int, txn int) []int {
	cycle := []int{txn}
	for at := before[txn]; at != txn; at = before[at] {
		cycle = append(cycle, at)
	}
	slices.Reverse(cycle[1:])
	return cycle
}
