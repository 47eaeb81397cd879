package waits_test

import (
	"slices"
	"testing"

	"latchstring/api"
	"latchstring/waits"
)

// spoil overwrites a list and its spare capacity.
func spoil[T any](l []T, with T) {
	l = l[:cap(l)]
	for i := range l {
		l[i] = with
	}
}

// roomy is a list with spare capacity, which must be neither read nor written.
func roomy(l []api.Edge) []api.Edge {
	out := append(make([]api.Edge, 0, len(l)+9), l...)
	spoil(out[len(out):], api.Edge{From: 77, To: 77})
	return out
}

// lists is lists in which each call has something to do: sorted or not, with edges twice or not, with and without a cycle.
func lists() [][]api.Edge {
	return [][]api.Edge{
		nil,
		edges(1, 2, 2, 3, 3, 1, 2, 1),
		edges(1, 2, 1, 3, 2, 3, 3, 1),
		edges(3, 1, 2, 3, 1, 2, 1, 2, 9, 9),
		edges(4, 3, 3, 2, 4, 3),
		edges(1, 2),
	}
}

// untouched holds a list with its spare capacity against what it was.
func untouched(t *testing.T, l, was []api.Edge, what string) {
	t.Helper()
	if !slices.Equal(l[:cap(l)], was) {
		t.Errorf("%s changed what was passed in: %v, was %v", what, l[:cap(l)], was)
	}
}

// Neither a call nor what is done with its result changes the list that was passed in.
func TestListsAreNewMemory(t *testing.T) {
	bad := api.Edge{From: -88, To: -88}
	for _, l := range lists() {
		l = roomy(l)
		was := slices.Clone(l[:cap(l)])
		spoil(waits.Sorted(l), bad)
		untouched(t, l, was, "Sorted")
		for txn := range 5 {
			spoil(waits.Without(l, txn), bad)
			untouched(t, l, was, "Without")
			spoil(waits.Reach(l, txn), -88)
			untouched(t, l, was, "Reach")
		}
		c, _ := waits.Cycle(l)
		spoil(c, -88)
		untouched(t, l, was, "Cycle")
		waits.Acyclic(l)
		untouched(t, l, was, "Acyclic")
	}
}

// Spare capacity is not returned either, and a later change of the list does not change a result.
func TestResultsStay(t *testing.T) {
	for _, l := range lists() {
		given := roomy(l)
		sorted, without := waits.Sorted(given), waits.Without(given, 3)
		spoil(given, api.Edge{From: 66, To: 66})
		if !slices.Equal(sorted, plainSorted(l)) || !slices.Equal(without, plainWithout(l, 3)) {
			t.Errorf("%v: Sorted %v, Without %v", l, sorted, without)
		}
		for _, got := range [][]api.Edge{sorted, without} {
			for _, e := range got[len(got):cap(got)] {
				if e != (api.Edge{}) && !slices.Contains(l, e) {
					t.Errorf("%v: spare capacity with %v", l, e)
				}
			}
		}
	}
}

func TestHeadsAreNotChanged(t *testing.T) {
	made := func() []api.Head {
		return append([]api.Head{
			head(3, grows(1, 1, api.S, api.X, 2), has(2, 2, api.S), wants(3, 3, api.X, 1), wants(4, 4, api.S, 3)),
			head(1, has(3, 3, api.X), wants(1, 1, api.S, 1)),
		}, others()...)
	}
	l, want := made(), made()
	first := waits.Edges(l)
	again := waits.Edges(l)
	spoil(first, api.Edge{From: -88, To: -88})
	for i, h := range l {
		if h.Name != want[i].Name || h.Waits != want[i].Waits || !slices.Equal(h.Queue, want[i].Queue) {
			t.Errorf("Edges changed a head: %v, was %v", h, want[i])
		}
	}
	if got := waits.Edges(l); !slices.Equal(got, again) {
		t.Errorf("Edges = %v, was %v", got, again)
	}
}

// The same list has the same results, however often they are asked for.
func TestSameAgain(t *testing.T) {
	for _, l := range lists() {
		c, is := waits.Cycle(l)
		for range 20 {
			d, also := waits.Cycle(l)
			if !slices.Equal(c, d) || is != also || !slices.Equal(waits.Reach(l, 1), waits.Reach(l, 1)) {
				t.Errorf("%v: Cycle = %v, %v, then %v, %v", l, c, is, d, also)
			}
		}
	}
}
