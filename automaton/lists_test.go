package automaton_test

import (
	"math"
	"slices"
	"testing"

	"latchstring/api"
	"latchstring/automaton"
	"latchstring/mode"
)

func checks(t *testing.T, want api.Errno, l ...api.Held) {
	t.Helper()
	if got := automaton.Check(l); got != want {
		t.Errorf("Check(%v) = %d, want %d", l, got, want)
	}
}

func TestP15_1CheckOfStates(t *testing.T) {
	checks(t, api.OK)
	checks(t, api.OK, list()...)
	checks(t, api.OK, held(1, db(), x))
	checks(t, api.OK, held(math.MinInt, db(), is), held(-1, db(), ix), held(0, db(), is), held(math.MaxInt, db(), ix))
	checks(t, api.OK, held(1, db(), ix), held(1, table(0), ix), held(1, record(0, 0), x), held(1, record(0, 99), x),
		held(1, table(1), s), held(2, db(), ix), held(2, table(0), ix), held(2, record(0, 1), x), held(2, table(99), x))
	// Locks without intentions above them are a state.
	checks(t, api.OK, held(1, record(3, 7), x), held(2, record(3, 8), x))
	for m := is; m <= x; m++ {
		checks(t, api.OK, held(5, table(4), m))
	}
}

func TestP15_1CheckOfTheOrder(t *testing.T) {
	checks(t, api.ErrArg, held(2, db(), is), held(1, db(), is))
	checks(t, api.ErrArg, held(0, db(), is), held(-1, db(), is))
	checks(t, api.ErrArg, held(1, table(0), is), held(1, db(), is))
	checks(t, api.ErrArg, held(1, table(2), is), held(1, table(1), is))
	checks(t, api.ErrArg, held(1, record(1, 1), s), held(1, record(1, 0), s))
	checks(t, api.ErrArg, held(1, record(1, 0), s), held(1, table(1), is))
	checks(t, api.ErrArg, held(1, table(1), is), held(1, record(0, 5), s))
	checks(t, api.ErrArg, held(1, db(), is), held(2, db(), is), held(1, table(0), is))
	checks(t, api.ErrArg, held(1, db(), is), held(3, db(), is), held(2, table(7), is), held(4, db(), is))
}

func TestP15_1CheckOfTheSameTwice(t *testing.T) {
	checks(t, api.ErrArg, held(1, db(), is), held(1, db(), is))
	checks(t, api.ErrArg, held(1, db(), is), held(1, db(), ix))
	checks(t, api.ErrArg, held(1, db(), is), held(2, table(4), s), held(2, table(4), s), held(3, db(), is))
	checks(t, api.OK, held(1, db(), is), held(1, table(4), is), held(2, db(), is), held(2, table(4), is))
}

func TestP15_1CheckOfModesAndNames(t *testing.T) {
	for _, m := range wrongModes() {
		checks(t, api.ErrArg, held(1, db(), m))
		checks(t, api.ErrArg, held(1, db(), is), held(1, table(0), m), held(2, db(), is))
	}
	for _, n := range wrongNames() {
		checks(t, api.ErrArg, held(1, n, s))
		checks(t, api.ErrArg, held(1, db(), is), held(2, n, s), held(3, db(), is))
	}
}

// Two hold a name in each pair of modes, next to each other and with others between.
func TestP15_1CheckOfPairs(t *testing.T) {
	for a := is; a <= x; a++ {
		for b := is; b <= x; b++ {
			want := api.ErrArg
			if mode.Compatible(a, b) {
				want = api.OK
			}
			checks(t, want, held(1, table(3), a), held(2, table(3), b))
			checks(t, want, held(1, db(), is), held(1, table(3), a), held(2, db(), is), held(2, table(4), x), held(3, db(), is), held(3, table(3), b))
			checks(t, api.OK, held(1, table(3), a), held(2, table(4), b))
			checks(t, api.OK, held(1, table(3), a), held(1, table(4), b))
		}
	}
	// The first two are compatible; the third is not with the first, or not with the second.
	checks(t, api.ErrArg, held(1, db(), s), held(2, db(), is), held(3, db(), ix))
	checks(t, api.ErrArg, held(1, db(), is), held(2, db(), s), held(3, db(), ix))
	checks(t, api.ErrArg, held(1, db(), is), held(2, db(), u), held(3, db(), u))
	checks(t, api.OK, held(1, db(), is), held(2, db(), s), held(3, db(), u), held(4, db(), s))
}

func modeIs(t *testing.T, l []api.Held, txn int, n api.Name, want api.Mode) {
	t.Helper()
	if got := automaton.Mode(l, txn, n); got != want {
		t.Errorf("Mode(%v, %d, %v) = %d, want %d", l, txn, n, got, want)
	}
}

func TestP15_1Mode(t *testing.T) {
	l := list(held(1, db(), ix), held(1, table(0), x), held(2, db(), is))
	modeIs(t, l, 1, db(), ix)
	modeIs(t, l, 1, table(0), x)
	modeIs(t, l, 2, db(), is)
	modeIs(t, l, 2, table(0), none)
	modeIs(t, l, 3, db(), none)
	modeIs(t, l, 0, db(), none)
	modeIs(t, l, 1, record(0, 0), none)
	modeIs(t, nil, 0, api.Name{}, none)
}

// The list has no order, the same more than once, and what no state has.
func TestP15_1ModeOfAnyList(t *testing.T) {
	wrong := api.Name{Table: 7, Record: 777}
	l := list(held(5, db(), s), held(2, wrong, 99), held(1, table(1), x), held(5, db(), u), held(2, wrong, is),
		held(1, record(0, 1), none), held(1, record(0, 1), x), held(0, db(), ix), held(5, db(), is))
	modeIs(t, l, 5, db(), s)
	modeIs(t, l, 2, wrong, 99)
	modeIs(t, l, 1, record(0, 1), none)
	modeIs(t, l, 1, table(1), x)
	modeIs(t, l, 0, db(), ix)
	modeIs(t, l, 0, wrong, none)
	modeIs(t, list(held(1, db(), -5)), 1, db(), -5)
}

func may(t *testing.T, l []api.Held, txn int, n api.Name, m api.Mode, want bool) {
	t.Helper()
	if got := automaton.May(l, txn, n, m); got != want {
		t.Errorf("May(%v, %d, %v, %d) = %v", l, txn, n, m, got)
	}
}

// Another one holds the name, and txn holds something itself: the supremum counts.
func TestP15_1May(t *testing.T) {
	for other := is; other <= x; other++ {
		for own := none; own <= x; own++ {
			for m := is; m <= x; m++ {
				want := mode.Compatible(mode.Sup(own, m), other)
				l := list(held(1, db(), other), held(2, db(), own), held(2, table(0), x), held(3, table(1), x))
				may(t, l, 2, db(), m, want)
				slices.Reverse(l)
				may(t, l, 2, db(), m, want)
				may(t, list(held(2, db(), own)), 2, db(), m, true)
			}
		}
	}
	may(t, list(held(1, db(), is), held(2, db(), s), held(3, db(), s)), 2, db(), u, true)
	may(t, list(held(1, db(), is), held(2, db(), s), held(3, db(), s)), 2, db(), x, false)
	may(t, list(held(1, db(), ix), held(2, db(), ix)), 1, db(), s, false)
	may(t, list(held(1, db(), ix), held(2, db(), is)), 1, db(), s, true)
	may(t, list(held(1, table(0), x)), 2, record(0, 0), x, true)
	may(t, nil, math.MinInt, record(99, 99), x, true)
}

func TestP15_1MayOfWrongNamesAndModes(t *testing.T) {
	for _, l := range [][]api.Held{nil, list(held(1, db(), is))} {
		for _, n := range wrongNames() {
			may(t, l, 1, n, s, false)
			may(t, l, 2, n, is, false)
		}
		for _, m := range wrongModes() {
			may(t, l, 1, db(), m, false)
			may(t, l, 2, table(5), m, false)
		}
	}
}

func TestP15_1MayOfAnyList(t *testing.T) {
	// Nothing is compatible with an unknown mode of another one; a None of another one is with all.
	may(t, list(held(1, db(), 7)), 2, db(), is, false)
	may(t, list(held(1, db(), -1)), 2, db(), is, false)
	may(t, list(held(1, db(), none)), 2, db(), x, true)
	may(t, list(held(1, db(), 7)), 2, table(0), x, true)
	// The supremum with an unknown mode is None, which is compatible with an X.
	may(t, list(held(1, db(), x), held(2, db(), 9)), 2, db(), x, true)
	may(t, list(held(1, db(), 9), held(2, db(), 9)), 2, db(), x, false)
	// The first own element counts, and no own one is another's.
	may(t, list(held(2, db(), is), held(1, db(), ix), held(2, db(), x)), 2, db(), is, true)
	may(t, list(held(2, db(), x), held(1, db(), ix), held(2, db(), is)), 2, db(), is, false)
	// All elements of another one count, not only its first one.
	may(t, list(held(1, db(), is), held(1, db(), x)), 2, db(), is, false)
	may(t, list(held(3, db(), is), held(1, db(), s), held(0, db(), ix)), 2, db(), s, false)
}

func ofIs(t *testing.T, l []api.Held, txn int, want ...api.Held) {
	t.Helper()
	if got := automaton.Of(l, txn); !slices.Equal(got, want) {
		t.Errorf("Of(%v, %d) = %v, want %v", l, txn, got, want)
	}
}

func TestP15_1Of(t *testing.T) {
	a, b, c := held(1, db(), ix), held(1, table(0), x), held(2, db(), is)
	ofIs(t, list(a, b, c), 1, a, b)
	ofIs(t, list(a, b, c), 2, c)
	ofIs(t, list(a, b, c), 3)
	ofIs(t, nil, 0)
	odd := held(1, api.Name{Table: 300, Record: -9}, 77)
	ofIs(t, list(b, c, odd, a, b, odd, c), 1, b, odd, a, b, odd)
	ofIs(t, list(b, c, odd, a, b, odd, c), 2, c, c)
	ofIs(t, list(held(math.MinInt, db(), s), a, held(math.MaxInt, db(), s)), math.MinInt, held(math.MinInt, db(), s))
}

func same(t *testing.T, a, b []api.Held, want bool) {
	t.Helper()
	if automaton.Same(a, b) != want || automaton.Same(b, a) != want {
		t.Errorf("Same(%v, %v) = %v", a, b, !want)
	}
}

func TestP15_1Same(t *testing.T) {
	a, b := held(1, db(), ix), held(2, table(0), 99)
	same(t, nil, nil, true)
	same(t, nil, []api.Held{}, true)
	same(t, list(a, b), list(a, b), true)
	same(t, list(b, a, a), list(b, a, a), true)
	same(t, list(a, b), list(b, a), false)
	same(t, list(a, b), list(a), false)
	same(t, list(a, b), list(b), false)
	same(t, list(a, b), nil, false)
	same(t, list(a), list(a, a), false)
	for _, c := range list(held(2, db(), ix), held(1, table(-1), is), held(1, table(0), ix), held(1, record(-1, 0), ix)) {
		same(t, list(a), list(c), false)
	}
}
