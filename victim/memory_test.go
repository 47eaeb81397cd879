package victim_test

import (
	"slices"
	"testing"

	"latchstring/api"
	"latchstring/victim"
)

// roomy is a list with spare capacity that must be neither read nor written.
func roomy[T any](l []T, spare ...T) []T {
	return append(append(make([]T, 0, len(l)+len(spare)), l...), spare...)[:len(l)]
}

// kept returns a function that holds a list with its spare capacity against what it was.
func kept[T comparable](t *testing.T, l []T) func() {
	was := slices.Clone(l[:cap(l)])
	return func() {
		t.Helper()
		if !slices.Equal(l[:cap(l)], was) {
			t.Errorf("changed what was passed in: %v, was %v", l[:cap(l)], was)
		}
	}
}

// Spare capacity says otherwise in each list: another member, another cycle, and greater ages.
func TestListsAreNotChanged(t *testing.T) {
	cycle := roomy([]int{2, 3, 1}, 9)
	l := roomy(edges(3, 1, 2, 3, 1, 2, 1, 2, 7, 6, 6, 7), edges(4, 4)...)
	a := roomy(ages(1, 5, 2, 3, 2, 9), ages(9, 99, 3, 99, 7, -99)...)
	checks := []func(){kept(t, cycle), kept(t, l), kept(t, a)}
	for range 3 {
		chooses(t, cycle, a, 1)
		if txn, is := victim.Choose(cycle, a); txn != 1 || !is {
			t.Errorf("Choose = %d, %v", txn, is)
		}
		aged(t, a, 3, 0)
		ends(t, l, a, 1, 7)
		for _, check := range checks {
			check()
		}
	}
}

func TestHeadsAreNotChanged(t *testing.T) {
	made := func() []api.Head {
		first, second := head(t, 1, s, 2, s, 1, x, 2, x, 3, x), head(t, 3, x, 1, s)
		first.Queue = roomy(first.Queue, api.Request{ID: 50, Txn: 50, Mode: api.X, Want: api.X})
		return roomy([]api.Head{first, second}, head(t, 5, s, 6, s, 5, x, 6, x))
	}
	l, want := made(), made()
	for range 3 {
		of(t, ages(1, 5), []int{1}, l...)
		for i, h := range l[:cap(l)] {
			w := want[:cap(want)][i]
			if h.Name != w.Name || h.Waits != w.Waits || !slices.Equal(h.Queue[:cap(h.Queue)], w.Queue[:cap(w.Queue)]) {
				t.Errorf("Of changed a head: %v, was %v", h, w)
			}
		}
	}
}

// A result does not change with what was passed in, nor with another result.
func TestResultsAreNewMemory(t *testing.T) {
	l, a := edges(1, 2, 2, 1, 3, 4, 4, 3, 5, 5), ages(1, 5, 4, 7)
	want := []int{1, 4, 5}
	first, second := victim.Victims(l, a), victim.Victims(l, a)
	for i := range first[:cap(first)] {
		first[:cap(first)][i] = -88
	}
	clear(l)
	clear(a)
	if !slices.Equal(second, want) {
		t.Errorf("Victims = %v, want %v", second, want)
	}
	ends(t, edges(1, 2, 2, 1, 3, 4, 4, 3, 5, 5), ages(1, 5, 4, 7), want...)
}
