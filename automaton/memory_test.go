package automaton_test

import (
	"slices"
	"testing"

	"latchstring/api"
	"latchstring/automaton"
)

// roomy is a list with spare capacity that must be neither read nor written.
func roomy[T any](l []T, spare ...T) []T {
	return append(append(make([]T, 0, len(l)+len(spare)), l...), spare...)[:len(l)]
}

// kept returns a function that holds a list with its spare capacity against what it was.
func kept[T comparable](t *testing.T, l []T) func() {
	was := slices.Clone(l[:cap(l)])
	return func() {
		t.Helper()
		if !slices.Equal(l[:cap(l)], was) {
			t.Errorf("changed what was passed in: %v, was %v", l[:cap(l)], was)
		}
	}
}

// Spare capacity says otherwise: it holds in X what is asked for, and has further acts that cannot be.
func TestListsAreNotChanged(t *testing.T) {
	a, b, c := held(1, db(), ix), held(1, table(2), s), held(3, db(), is)
	l := roomy(list(a, b, c), held(4, table(5), x), held(4, table(6), x), held(4, table(7), x))
	acts := roomy([]api.Act{acquire(2, table(5), s, 1), acquire(1, table(2), ix, 1), release(1, db(), 1), releaseAll(3, 1)}, acquire(1, db(), 0, 1))
	checks := []func(){kept(t, l), kept(t, acts)}
	for range 3 {
		steps(t, l, acquire(0, table(5), s, api.Granted), held(0, table(5), s), a, b, c)
		steps(t, l, acquire(9, table(5), s, api.Granted), a, b, c, held(9, table(5), s))
		steps(t, l, acquire(1, table(2), ix, api.Granted), a, held(1, table(2), six), c)
		steps(t, l, acquire(1, table(2), ix, api.Full), a, b, c)
		steps(t, l, release(1, db(), api.Granted), b, c)
		steps(t, l, pass(3, db(), api.Granted), a, b)
		steps(t, l, releaseAll(1, api.Granted), c)
		codes(t, l, acquire(8, table(5), s, 0), 1, 2, 3, 4, 5)
		runs(t, l, list(held(1, table(2), six), held(2, table(5), s)), acts...)
		runsNot(t, l, 4, append(slices.Clone(acts), acquire(1, db(), 0, 1))...)
		ofIs(t, l, 4)
		modeIs(t, l, 4, table(5), none)
		may(t, l, 5, table(5), x, true)
		same(t, l, list(a, b, c), true)
		for _, check := range checks {
			check()
		}
	}
}

// A result does not change with what was passed in, nor with another result.
func TestResultsAreNewMemory(t *testing.T) {
	a, b := held(1, db(), ix), held(2, db(), is)
	acts := []api.Act{acquire(2, db(), s, api.Full), acquire(3, db(), is, api.Granted), release(1, db(), api.Granted), releaseAll(9, api.Granted), release(7, db(), api.Misuse)}
	for i, act := range acts {
		l := list(a, b)
		first, _ := automaton.Step(l, act)
		second, _ := automaton.Step(l, act)
		third, _, _ := automaton.Run(l, []api.Act{act})
		want, _ := plainStep(list(a, b), act)
		spoil(first)
		spoil(l)
		if !slices.Equal(second, want) || !slices.Equal(third, want) {
			t.Errorf("act %d: %v, %v, want %v", i, second, third, want)
		}
	}
	l := list(a, b)
	none, _, _ := automaton.Run(l, nil)
	of, again := automaton.Of(l, 1), automaton.Of(l, 1)
	spoil(l)
	spoil(of)
	if !slices.Equal(none, list(a, b)) || !slices.Equal(again, list(a)) {
		t.Errorf("Run = %v, Of = %v", none, again)
	}
	act := acquire(1, db(), s, 0)
	one, two := automaton.Codes(nil, act), automaton.Codes(nil, act)
	clear(one[:cap(one)])
	if !slices.Equal(two, []int{1, 2, 3, 4, 5}) {
		t.Errorf("Codes = %v", two)
	}
}

// spoil overwrites a list with its spare capacity.
func spoil(l []api.Held) {
	for i := range l[:cap(l)] {
		l[:cap(l)][i] = held(-88, table(88), 88)
	}
}
