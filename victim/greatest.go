package victim

import (
	"cmp"

	"latchstring/api"
)

// greatest returns the greatest element by a comparison, and whether there is one.
func greatest[T any](l []T, compare func(a, b T) int) (T, bool) {
	var best T
	for i, x := range l {
		if i == 0 || compare(x, best) > 0 {
			best = x
		}
	}
	return best, len(l) > 0
}

// byAge returns a comparison of transactions by their ages, then by their numbers.
func byAge(ages []api.Age) func(a, b int) int {
	age := firsts(ages)
	return func(a, b int) int {
		return cmp.Or(cmp.Compare(age[a], age[b]), cmp.Compare(a, b))
	}
}

// firsts returns the age of each transaction that has an entry. With Age each comparison would go through the list again, and lists of ages, cycles and victims may all be long.
func firsts(ages []api.Age) map[int]int64 {
	first := map[int]int64{}
	for _, a := range ages {
		if _, is := first[a.Txn]; !is {
			first[a.Txn] = a.Age
		}
	}
	return first
}
