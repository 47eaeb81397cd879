package waits_test

import (
	"math"
	"slices"
	"testing"

	"latchstring/api"
	"latchstring/waits"
)

func sorts(t *testing.T, l, want []api.Edge) {
	t.Helper()
	if got := waits.Sorted(l); !slices.Equal(got, want) {
		t.Errorf("Sorted(%v) = %v, want %v", l, got, want)
	}
}

func reaches(t *testing.T, l []api.Edge, from int, want ...int) {
	t.Helper()
	if got := waits.Reach(l, from); !slices.Equal(got, want) {
		t.Errorf("Reach(%v, %d) = %v, want %v", l, from, got, want)
	}
}

// cycles holds Cycle and Acyclic against a cycle; none is that there is none.
func cycles(t *testing.T, l []api.Edge, want ...int) {
	t.Helper()
	got, is := waits.Cycle(l)
	if !slices.Equal(got, want) || is != (len(want) > 0) || !is && got != nil {
		t.Errorf("Cycle(%v) = %v, %v, want %v", l, got, is, want)
	}
	if waits.Acyclic(l) == is {
		t.Errorf("Acyclic(%v) = %v", l, is)
	}
}

func leaves(t *testing.T, l []api.Edge, txn int, want []api.Edge) {
	t.Helper()
	if got := waits.Without(l, txn); !slices.Equal(got, want) {
		t.Errorf("Without(%v, %d) = %v, want %v", l, txn, got, want)
	}
}

func TestExample(t *testing.T) {
	cycles(t, edges(1, 2, 2, 3, 3, 1, 2, 1), 1, 2)
}

func TestP13_1Sorted(t *testing.T) {
	sorts(t, edges(2, 1, 1, 2, 1, 1, 2, 2), edges(1, 1, 1, 2, 2, 1, 2, 2))
	sorts(t, edges(1, 9, 2, 8, 3, 7), edges(1, 9, 2, 8, 3, 7))
	sorts(t, edges(3, 7, 2, 8, 1, 9), edges(1, 9, 2, 8, 3, 7))
	sorts(t, edges(5, 3, 5, 1, 5, 2), edges(5, 1, 5, 2, 5, 3))
	sorts(t, edges(4, 4), edges(4, 4))
}

// Only equal edges are one, wherever they stand.
func TestP13_1SortedOnce(t *testing.T) {
	sorts(t, edges(1, 2, 1, 2, 1, 2), edges(1, 2))
	sorts(t, edges(1, 2, 2, 1, 1, 2, 2, 1, 1, 2), edges(1, 2, 2, 1))
	sorts(t, edges(1, 2, 1, 3, 2, 3, 3, 3), edges(1, 2, 1, 3, 2, 3, 3, 3))
	sorts(t, edges(0, 0, 0, 0), edges(0, 0))
	sorts(t, edges(0, 0, -1, -1, 0, 0), edges(-1, -1, 0, 0))
	// Numbers that are the same only if they are cut short.
	sorts(t, edges(1, 1<<32, 1, 0, 1+1<<32, 0, 1, 0), edges(1, 0, 1, 1<<32, 1+1<<32, 0))
}

func TestP13_1SortedOfAnyNumbers(t *testing.T) {
	least, most := math.MinInt, math.MaxInt
	sorts(t, edges(most, least, least, most, 0, 0, most, most, -1, 1, least, least),
		edges(least, least, least, most, -1, 1, 0, 0, most, least, most, most))
}

func TestP13_1SortedOfNothing(t *testing.T) {
	sorts(t, nil, nil)
	sorts(t, []api.Edge{}, nil)
}

func TestP13_1Reach(t *testing.T) {
	l := edges(1, 2, 2, 3, 3, 4, 9, 1, 2, 7)
	reaches(t, l, 1, 2, 3, 4, 7)
	reaches(t, l, 2, 3, 4, 7)
	reaches(t, l, 3, 4)
	reaches(t, l, 4)
	reaches(t, l, 7)
	reaches(t, l, 9, 1, 2, 3, 4, 7)
	// The order of the list does not matter, nor do edges that come twice.
	slices.Reverse(l)
	reaches(t, append(l, l...), 1, 2, 3, 4, 7)
}

// One is reached by itself only if an edge leads back to it.
func TestP13_1ReachOfItself(t *testing.T) {
	reaches(t, edges(1, 2), 1, 2)
	reaches(t, edges(1, 1), 1, 1)
	reaches(t, edges(1, 2, 2, 1), 1, 1, 2)
	reaches(t, edges(1, 2, 2, 1), 2, 1, 2)
	reaches(t, edges(1, 2, 2, 2), 1, 2)
	reaches(t, edges(5, 4, 4, 6, 6, 5, 6, 1), 5, 1, 4, 5, 6)
	reaches(t, edges(5, 4, 4, 6, 6, 4), 5, 4, 6)
}

func TestP13_1ReachOfOthers(t *testing.T) {
	for _, from := range []int{0, 4, -1, math.MinInt, math.MaxInt, 1 + 1<<32} {
		reaches(t, edges(1, 2, 2, 3, 3, 1), from)
		reaches(t, nil, from)
		reaches(t, []api.Edge{}, from)
		reaches(t, edges(from, 1, 1, 2), from, 1, 2)
	}
	reaches(t, edges(math.MaxInt, math.MinInt, math.MinInt, math.MaxInt), math.MinInt, math.MinInt, math.MaxInt)
	reaches(t, edges(0, math.MaxInt, math.MaxInt, -1, -1, math.MinInt), 0, math.MinInt, -1, math.MaxInt)
}

func TestP13_2NoCycle(t *testing.T) {
	cycles(t, nil)
	cycles(t, []api.Edge{})
	cycles(t, edges(1, 2))
	cycles(t, edges(1, 2, 1, 2))
	cycles(t, edges(2, 1, 3, 2, 3, 1))
	// Two ways to one are not a cycle.
	cycles(t, edges(1, 2, 1, 3, 2, 4, 3, 4))
	cycles(t, edges(1, 3, 2, 3, 3, 4, 2, 4))
	cycles(t, edges(0, 1<<32, 1<<32, 1, 1, 1+1<<32))
}

func TestP13_2CycleOfOne(t *testing.T) {
	cycles(t, edges(5, 5), 5)
	cycles(t, edges(0, 0), 0)
	cycles(t, edges(-1, -1), -1)
	cycles(t, edges(math.MinInt, math.MinInt), math.MinInt)
	cycles(t, edges(math.MaxInt, math.MaxInt), math.MaxInt)
	cycles(t, edges(5, 5, 5, 6, 6, 5), 5)
	cycles(t, edges(5, 6, 6, 5, 6, 6), 5, 6)
	cycles(t, edges(4, 5, 5, 5, 5, 6), 5)
	cycles(t, edges(5, 4, 5, 5, 6, 5), 5)
}

// The smallest one that reaches itself begins, whether or not smaller ones lead to it, or are reached by it.
func TestP13_2CycleOfTheSmallest(t *testing.T) {
	cycles(t, edges(1, 5, 5, 6, 6, 5), 5, 6)
	cycles(t, edges(5, 1, 5, 6, 6, 5), 5, 6)
	cycles(t, edges(6, 1, 1, 0, 5, 6, 6, 5), 5, 6)
	cycles(t, edges(9, 8, 8, 9, 5, 6, 6, 5), 5, 6)
	cycles(t, edges(5, 6, 6, 5, 9, 8, 8, 9), 5, 6)
	cycles(t, edges(1, 9, 9, 8, 8, 9, 8, 5, 5, 6, 6, 5), 5, 6)
	cycles(t, edges(2, 9, 9, 4, 4, 9, 3, 3), 3)
	cycles(t, edges(2, 9, 9, 3, 3, 9, 4, 4), 3, 9)
	// The longer one of two cycles, if the smallest one is in it alone.
	cycles(t, edges(3, 7, 7, 8, 8, 9, 9, 3, 8, 7), 3, 7, 8, 9)
	cycles(t, edges(1, 5, 5, 2, 2, 7, 7, 5), 2, 7, 5)
	cycles(t, edges(-3, -2, -2, -3, 0, 1, 1, 0), -3, -2)
}

// Between two cycles is no cycle, however small those are that are there.
func TestP13_2CycleNotBetweenCycles(t *testing.T) {
	cycles(t, edges(8, 9, 9, 8, 9, 1, 1, 2, 2, 3, 3, 5, 5, 6, 6, 5), 5, 6)
	cycles(t, edges(5, 6, 6, 5, 6, 1, 1, 2, 2, 3, 3, 8, 8, 9, 9, 8), 5, 6)
	cycles(t, edges(8, 8, 8, 1, 1, 7, 7, 7), 7)
}

func TestP13_2ShortestCycle(t *testing.T) {
	cycles(t, edges(1, 2, 2, 3, 3, 4, 4, 1, 3, 1), 1, 2, 3)
	cycles(t, edges(1, 2, 2, 3, 3, 4, 4, 1, 1, 4), 1, 4)
	cycles(t, edges(1, 2, 2, 3, 3, 1, 1, 9, 9, 1), 1, 9)
	cycles(t, edges(1, 2, 2, 3, 3, 4, 4, 1, 1, 9, 9, 8, 8, 1), 1, 9, 8)
}

// Of several shortest ones the first different member counts, not a later one, and not who leads back.
func TestP13_2FirstOfTheShortestCycles(t *testing.T) {
	cycles(t, edges(1, 3, 3, 1, 1, 2, 2, 1), 1, 2)
	cycles(t, edges(1, 2, 2, 9, 9, 1, 1, 3, 3, 4, 4, 1), 1, 2, 9)
	cycles(t, edges(1, 3, 3, 2, 2, 1, 1, 4, 4, 5, 5, 1), 1, 3, 2)
	cycles(t, edges(1, 2, 2, 8, 2, 5, 8, 1, 5, 1), 1, 2, 5)
	cycles(t, edges(1, 3, 3, 5, 1, 4, 4, 5, 5, 1), 1, 3, 5)
	cycles(t, edges(1, 2, 1, 3, 2, 7, 3, 6, 7, 4, 6, 4, 4, 1), 1, 2, 7, 4)
	cycles(t, edges(1, 2, 1, 3, 2, 7, 3, 6, 7, 5, 6, 4, 4, 1, 5, 1), 1, 2, 7, 5)
	cycles(t, edges(1, 2, 1, 3, 2, 9, 3, 4, 4, 5, 5, 1), 1, 3, 4, 5)
}

func TestP13_2CycleOfAnyNumbers(t *testing.T) {
	least, most := math.MinInt, math.MaxInt
	cycles(t, edges(most, least, least, most), least, most)
	cycles(t, edges(most, 0, 0, most, least, 0), 0, most)
	cycles(t, edges(-1, most, most, least, least, -1, 0, -1, -1, 0), least, -1, most)
	cycles(t, edges(1+1<<32, 1<<33, 1<<33, 1+1<<32, 1, 2), 1+1<<32, 1<<33)
}

func TestP13_2Without(t *testing.T) {
	l := edges(3, 1, 1, 2, 2, 3, 2, 2, 1, 2, 3, 4)
	leaves(t, l, 1, edges(2, 3, 2, 2, 3, 4))
	leaves(t, l, 2, edges(3, 1, 3, 4))
	leaves(t, l, 3, edges(1, 2, 2, 2, 1, 2))
	leaves(t, l, 4, edges(3, 1, 1, 2, 2, 3, 2, 2, 1, 2))
	leaves(t, edges(7, 7, 7, 8, 8, 7), 7, nil)
	for _, txn := range []int{0, 5, -1, math.MinInt, math.MaxInt, 1 + 1<<32} {
		leaves(t, l, txn, l)
		leaves(t, nil, txn, nil)
		leaves(t, []api.Edge{}, txn, nil)
		leaves(t, edges(txn, 1, 6, 2, 1, txn), txn, edges(6, 2))
	}
}
