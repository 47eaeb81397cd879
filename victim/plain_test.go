package victim_test

import (
	"latchstring/api"
	"latchstring/waits"
)

// edges is the edges between each two numbers.
func edges(ends ...int) []api.Edge {
	var l []api.Edge
	for i := 0; i < len(ends); i += 2 {
		l = append(l, api.Edge{From: ends[i], To: ends[i+1]})
	}
	return l
}

// ages is the entries of transactions, each with its age behind it.
func ages(l ...int) []api.Age {
	var out []api.Age
	for i := 0; i < len(l); i += 2 {
		out = append(out, api.Age{Txn: l[i], Age: int64(l[i+1])})
	}
	return out
}

// This is the chapter's words, read one by one.

func plainAge(l []api.Age, txn int) int64 {
	var age int64
	for i := len(l) - 1; i >= 0; i-- {
		if l[i].Txn == txn {
			age = l[i].Age
		}
	}
	return age
}

// plainYounger reports whether one is chosen rather than another one.
func plainYounger(l []api.Age, a, b int) bool {
	if plainAge(l, a) == plainAge(l, b) {
		return a > b
	}
	return plainAge(l, a) > plainAge(l, b)
}

// plainChoose looks for a member rather than which no other one is chosen.
func plainChoose(cycle []int, l []api.Age) (int, bool) {
candidates:
	for _, txn := range cycle {
		for _, other := range cycle {
			if plainYounger(l, other, txn) {
				continue candidates
			}
		}
		return txn, true
	}
	return 0, false
}

func plainVictims(l []api.Edge, a []api.Age) []int {
	cycle, is := waits.Cycle(l)
	if !is {
		return nil
	}
	txn, _ := plainChoose(cycle, a)
	return append([]int{txn}, plainVictims(waits.Without(l, txn), a)...)
}
