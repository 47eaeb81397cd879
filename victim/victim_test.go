package victim_test

import (
	"math"
	"slices"
	"testing"

	"latchstring/api"
	"latchstring/victim"
)

func aged(t *testing.T, l []api.Age, txn int, want int64) {
	t.Helper()
	if got := victim.Age(l, txn); got != want {
		t.Errorf("Age(%v, %d) = %d, want %d", l, txn, got, want)
	}
}

// chooses holds Choose against a victim, wherever the cycle begins, and whichever way it goes.
func chooses(t *testing.T, cycle []int, l []api.Age, want int) {
	t.Helper()
	for i := range cycle {
		turned := slices.Concat(cycle[i:], cycle[:i])
		for range 2 {
			if got, is := victim.Choose(turned, l); got != want || !is {
				t.Errorf("Choose(%v, %v) = %d, %v, want %d", turned, l, got, is, want)
			}
			slices.Reverse(turned)
		}
	}
}

func ends(t *testing.T, l []api.Edge, a []api.Age, want ...int) {
	t.Helper()
	if got := victim.Victims(l, a); !slices.Equal(got, want) {
		t.Errorf("Victims(%v, %v) = %v, want %v", l, a, got, want)
	}
}

func TestExample(t *testing.T) {
	ends(t, edges(1, 2, 2, 1), ages(1, 5, 2, 3), 1)
}

func TestP14_1Age(t *testing.T) {
	l := ages(1, 5, 2, 3, 7, -4, 0, 9, -6, 8)
	for txn, want := range map[int]int64{1: 5, 2: 3, 7: -4, 0: 9, -6: 8} {
		aged(t, l, txn, want)
	}
}

// The first entry counts, whatever the later ones say, also if it says 0.
func TestP14_1AgeOfSeveralEntries(t *testing.T) {
	aged(t, ages(1, 5, 2, 3, 1, 9, 1, 2), 1, 5)
	aged(t, ages(2, 3, 1, -5, 1, 9), 1, -5)
	aged(t, ages(1, 0, 1, 9), 1, 0)
	aged(t, ages(1, 0, 1, 9, 0, 4), 0, 4)
}

func TestP14_1AgeWithoutEntry(t *testing.T) {
	for _, txn := range []int{0, 3, -1, 1 + 1<<32, math.MinInt, math.MaxInt} {
		aged(t, nil, txn, 0)
		aged(t, []api.Age{}, txn, 0)
		aged(t, ages(1, 5, 2, 3), txn, 0)
		aged(t, ages(1, 5, txn, 7, 2, 3), txn, 7)
	}
}

func TestP14_1AgeOfAnyNumbers(t *testing.T) {
	for _, age := range []int64{0, 1, -1, 1 << 32, math.MinInt64, math.MaxInt64} {
		aged(t, []api.Age{{Txn: math.MinInt, Age: 4}, {Txn: math.MaxInt, Age: age}}, math.MaxInt, age)
		aged(t, []api.Age{{Txn: math.MaxInt, Age: 4}, {Txn: math.MinInt, Age: age}}, math.MinInt, age)
	}
}

func TestP14_1ChooseTheGreatestAge(t *testing.T) {
	chooses(t, []int{1, 2}, ages(1, 5, 2, 3), 1)
	chooses(t, []int{1, 2}, ages(1, 3, 2, 5), 2)
	chooses(t, []int{1, 7, 3, 5}, ages(1, 2, 3, 9, 5, 8, 7, 1), 3)
	chooses(t, []int{1, 7, 3, 5}, ages(7, 1, 5, 8, 3, 9, 1, 10), 1)
	// Those that are not in the cycle do not count.
	chooses(t, []int{1, 2}, ages(9, 100, 1, 5, 0, 50, 2, 3), 1)
}

func TestP14_1ChooseTheGreatestNumberOfTheSameAge(t *testing.T) {
	chooses(t, []int{1, 2, 3}, ages(1, 5, 2, 5, 3, 5), 3)
	chooses(t, []int{1, 9, 2, 4, 3}, ages(1, 5, 2, 7, 3, 7, 4, 7, 9, 6), 4)
	chooses(t, []int{-5, -3, -4}, ages(-5, 1, -3, 1, -4, 1), -3)
	chooses(t, []int{1, 2, 3}, nil, 3)
	chooses(t, []int{-1, 0, -2}, []api.Age{}, 0)
	chooses(t, []int{math.MinInt, math.MaxInt, 0}, nil, math.MaxInt)
	chooses(t, []int{1 + 1<<32, 2}, nil, 1+1<<32)
}

// Whoever has no entry has the age 0: above those with a negative age, below those with another one.
func TestP14_1ChooseWithoutEntries(t *testing.T) {
	chooses(t, []int{1, 2, 3}, ages(2, -1, 3, -9), 1)
	chooses(t, []int{1, 2, 3}, ages(1, 1), 1)
	chooses(t, []int{1, 2, 3}, ages(2, 0), 3)
	chooses(t, []int{-1, -2, -3}, ages(-2, -5, -1, -7, -3, -6), -2)
}

func TestP14_1ChooseByTheFirstEntry(t *testing.T) {
	chooses(t, []int{1, 2}, ages(1, 5, 2, 3, 2, 9), 1)
	chooses(t, []int{1, 2}, ages(2, 3, 1, 5, 1, 2), 1)
	chooses(t, []int{1, 2}, ages(2, 0, 1, 1, 2, 9), 1)
	chooses(t, []int{1, 2}, ages(1, -1, 2, -2, 2, 9), 1)
}

func TestP14_1ChooseByAnyAges(t *testing.T) {
	least, most := int64(math.MinInt64), int64(math.MaxInt64)
	both := []api.Age{{Txn: 1, Age: most}, {Txn: 2, Age: least}}
	chooses(t, []int{1, 2}, both, 1)
	chooses(t, []int{1, 2, 3}, both, 1)
	chooses(t, []int{2, 3}, both, 3)
	chooses(t, []int{2, -3}, both, -3)
	chooses(t, []int{1, 2}, []api.Age{{Txn: 1, Age: 1 << 32}, {Txn: 2, Age: 5}}, 1)
	chooses(t, []int{2, math.MinInt}, []api.Age{{Txn: math.MinInt, Age: 1}}, math.MinInt)
}

func TestP14_1ChooseOfOne(t *testing.T) {
	for _, txn := range []int{0, 1, -1, math.MinInt, math.MaxInt} {
		chooses(t, []int{txn}, nil, txn)
		chooses(t, []int{txn}, ages(txn, -5, 3, 8), txn)
	}
}

func TestP14_1ChooseOfNothing(t *testing.T) {
	for _, cycle := range [][]int{nil, {}, make([]int, 0, 5)} {
		for _, l := range [][]api.Age{nil, {}, ages(1, 5, 2, 3), ages(0, 7)} {
			if got, is := victim.Choose(cycle, l); got != 0 || is {
				t.Errorf("Choose(%v, %v) = %d, %v", cycle, l, got, is)
			}
		}
	}
}

func TestP14_1NoVictims(t *testing.T) {
	for _, a := range [][]api.Age{nil, {}, ages(1, 5, 2, 3)} {
		ends(t, nil, a)
		ends(t, []api.Edge{}, a)
		ends(t, edges(1, 2), a)
		ends(t, edges(1, 2, 1, 3, 2, 4, 3, 4, 1, 2), a)
	}
}

// The victim of the cycle that begins with the smallest one comes first, however old it is.
func TestP14_1VictimsAsTheyAreFound(t *testing.T) {
	l := edges(5, 6, 6, 5, 1, 2, 2, 1, 3, 4, 4, 3)
	ends(t, l, nil, 2, 4, 6)
	ends(t, l, ages(5, 9, 3, 7, 1, 5), 1, 3, 5)
	ends(t, l, ages(1, -9, 4, -1), 2, 3, 6)
	slices.Reverse(l)
	ends(t, append(l, l...), ages(1, -9, 4, -1), 2, 3, 6)
	ends(t, edges(-1, 8, 8, -1, 0, 7, 7, 0), ages(0, 100), 8, 0)
}

// One victim may end several cycles, and one that is not of the first cycle comes later.
func TestP14_1VictimsWithoutThoseBefore(t *testing.T) {
	l := edges(1, 2, 2, 1, 2, 3, 3, 2)
	ends(t, l, ages(2, 9), 2)
	ends(t, l, ages(1, 9), 1, 3)
	ends(t, l, ages(1, 9, 2, 5), 1, 2)
	ends(t, l, ages(3, 9), 2)
	// Only the members of the first cycle are asked for: 4 is on a longer one.
	l = edges(1, 2, 2, 1, 2, 4, 4, 1)
	ends(t, l, ages(4, 9), 2)
	ends(t, l, ages(4, 9, 1, 3), 1)
	// Without the first victim another way round is the first one.
	l = edges(1, 2, 2, 1, 1, 3, 3, 1, 3, 4, 4, 3)
	ends(t, l, nil, 2, 3)
	ends(t, l, ages(4, 8), 2, 3)
	ends(t, l, ages(3, -1), 2, 1, 4)
	ends(t, edges(1, 2, 2, 3, 3, 1, 2, 1), ages(3, 9), 2)
	ends(t, edges(1, 2, 2, 3, 3, 1, 2, 1), ages(1, 9), 1)
}

func TestP14_1VictimsThatWaitForThemselves(t *testing.T) {
	ends(t, edges(5, 5), nil, 5)
	ends(t, edges(0, 0), ages(0, -1), 0)
	ends(t, edges(5, 5, 4, 4, 6, 6), ages(6, 9), 4, 5, 6)
	ends(t, edges(1, 1, 1, 2, 2, 1), ages(2, 9), 1)
	ends(t, edges(2, 2, 1, 2, 2, 1), ages(1, 9), 1, 2)
	ends(t, edges(2, 2, 1, 2, 2, 1), ages(2, 9), 2)
	ends(t, edges(math.MaxInt, math.MaxInt, math.MinInt, math.MinInt), nil, math.MinInt, math.MaxInt)
}

func TestP14_1VictimsWhereAllWaitForAll(t *testing.T) {
	var l []api.Edge
	for a := 1; a <= 4; a++ {
		for b := 1; b <= 4; b++ {
			if a != b {
				l = append(l, api.Edge{From: a, To: b})
			}
		}
	}
	ends(t, l, nil, 2, 3, 4)
	ends(t, l, ages(1, 4, 2, 3, 3, 2, 4, 1), 1, 2, 3)
	ends(t, l, ages(1, 2, 2, 2, 3, 4, 4, 1), 2, 3, 1)
}

func TestP14_1VictimsOfAnyNumbers(t *testing.T) {
	least, most := math.MinInt, math.MaxInt
	ends(t, edges(least, most, most, least), nil, most)
	ends(t, edges(least, most, most, least), ages(most, least, least, most), least)
	ends(t, edges(most, 0, 0, most, least, -1, -1, least), ages(most, -1), -1, 0)
	ends(t, edges(1, 1+1<<32, 1<<32, 0), nil)
}

func TestP14_1VictimsByTheFirstEntry(t *testing.T) {
	ends(t, edges(1, 2, 2, 1, 3, 4, 4, 3), ages(1, 5, 4, 1, 3, 2, 2, 3, 2, 9, 4, 9), 1, 3)
}
