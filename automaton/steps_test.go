package automaton_test

import (
	"math"
	"slices"
	"testing"

	"latchstring/api"
	"latchstring/automaton"
)

// steps asks for a step that is possible.
func steps(t *testing.T, l []api.Held, a api.Act, want ...api.Held) {
	t.Helper()
	if got, ok := automaton.Step(l, a); !ok || !slices.Equal(got, want) {
		t.Errorf("Step(%v, %v) = %v, %v, want %v", l, a, got, ok, want)
	}
}

func stepsNot(t *testing.T, l []api.Held, a api.Act) {
	t.Helper()
	if got, ok := automaton.Step(l, a); ok || len(got) != 0 {
		t.Errorf("Step(%v, %v) = %v, %v", l, a, got, ok)
	}
}

// codes holds Codes against a list for each code of the act, and Step against it.
func codes(t *testing.T, l []api.Held, a api.Act, want ...int) {
	t.Helper()
	for _, c := range []int{math.MinInt, -1, 0, 1, 2, 3, 4, 5, 6, 7, 8, 9, math.MaxInt} {
		a.Code = c
		if got := automaton.Codes(l, a); !slices.Equal(got, want) {
			t.Errorf("Codes(%v, %v) = %v, want %v", l, a, got, want)
		}
		if _, ok := automaton.Step(l, a); ok != slices.Contains(want, c) {
			t.Errorf("Step(%v, %v) = %v", l, a, ok)
		}
	}
}

// notValid are lists of which nothing is possible.
func notValid() [][]api.Held {
	return [][]api.Held{
		list(held(2, db(), is), held(1, db(), is)),
		list(held(1, db(), is), held(1, db(), is)),
		list(held(1, db(), none)),
		list(held(1, db(), 7)),
		list(held(1, api.Name{Table: -1, Record: 3}, s)),
		list(held(1, db(), s), held(2, db(), ix)),
	}
}

func TestP15_2Acquire(t *testing.T) {
	a, b, c := held(1, db(), ix), held(1, table(2), s), held(3, db(), is)
	l := list(a, b, c)
	steps(t, nil, acquire(-7, record(3, 7), x, api.Granted), held(-7, record(3, 7), x))
	steps(t, l, acquire(0, db(), is, api.Granted), held(0, db(), is), a, b, c)
	steps(t, l, acquire(1, table(1), u, api.Granted), a, held(1, table(1), u), b, c)
	steps(t, l, acquire(1, record(2, 0), x, api.Granted), a, b, held(1, record(2, 0), x), c)
	steps(t, l, acquire(2, db(), ix, api.Granted), a, b, held(2, db(), ix), c)
	steps(t, l, acquire(9, table(2), u, api.Granted), a, b, c, held(9, table(2), u))
	// It holds the supremum then.
	steps(t, l, acquire(1, table(2), ix, api.Granted), a, held(1, table(2), six), c)
	steps(t, l, acquire(1, table(2), is, api.Granted), a, b, c)
	steps(t, l, acquire(1, db(), s, api.Granted), held(1, db(), six), b, c)
	steps(t, l, acquire(3, db(), ix, api.Granted), a, b, held(3, db(), ix))
	stepsNot(t, l, acquire(1, db(), x, api.Granted))
	stepsNot(t, l, acquire(3, db(), s, api.Granted))
	stepsNot(t, l, acquire(2, table(2), ix, api.Granted))
	stepsNot(t, list(a, held(3, db(), ix)), acquire(3, db(), s, api.Granted))
}

func TestP15_2AcquireWithoutSuccess(t *testing.T) {
	l := list(held(1, db(), ix), held(2, db(), is))
	for _, c := range []int{api.Timeout, api.Cancelled, api.Deadlock, api.Full} {
		steps(t, l, acquire(1, db(), x, c), l...)
		steps(t, l, acquire(1, db(), is, c), l...)
		steps(t, l, acquire(3, record(1, 1), x, c), l...)
		steps(t, nil, acquire(3, db(), s, c))
	}
	codes(t, l, acquire(1, db(), x, 0), 2, 3, 4, 5)
	codes(t, l, acquire(1, db(), is, 0), 1, 2, 3, 4, 5)
	codes(t, nil, acquire(0, record(0, 0), x, 0), 1, 2, 3, 4, 5)
}

func TestP15_2AcquireOfWrongNamesAndModes(t *testing.T) {
	l := list(held(1, db(), ix), held(2, db(), is))
	for _, n := range wrongNames() {
		codes(t, l, acquire(1, n, s, 0), 6)
		codes(t, nil, acquire(1, n, s, 0), 6)
		steps(t, l, acquire(1, n, x, api.Misuse), l...)
	}
	for _, m := range wrongModes() {
		codes(t, l, acquire(1, db(), m, 0), 6)
		codes(t, l, acquire(7, table(0), m, 0), 6)
		steps(t, l, acquire(2, db(), m, api.Misuse), l...)
	}
	codes(t, l, acquire(1, api.Name{Table: 100, Record: 100}, 99, 0), 6)
}

func TestP15_2ReleaseAndPass(t *testing.T) {
	a, b, c := held(1, db(), ix), held(1, table(2), s), held(3, db(), is)
	l := list(a, b, c)
	for _, act := range []func(int, api.Name, int) api.Act{release, pass} {
		steps(t, l, act(1, db(), api.Granted), b, c)
		steps(t, l, act(1, table(2), api.Granted), a, c)
		steps(t, l, act(3, db(), api.Granted), a, b)
		steps(t, list(c), act(3, db(), api.Granted))
		codes(t, l, act(1, db(), 0), 1)
	}
	// The mode of a release counts for nothing.
	with := release(1, table(2), api.Granted)
	with.Mode = 99
	steps(t, l, with, a, c)
	codes(t, l, with, 1)
}

func TestP15_2ReleaseOfWhatIsNotHeld(t *testing.T) {
	l := list(held(1, db(), ix), held(1, table(2), s), held(3, db(), is))
	names := append(wrongNames(), table(1), record(2, 0), api.Name{})
	for _, n := range names {
		codes(t, l, release(1, n, 0), 6)
		codes(t, nil, release(1, n, 0), 6)
		codes(t, l, pass(1, n, 0))
		codes(t, nil, pass(1, n, 0))
		steps(t, l, release(1, n, api.Misuse), l...)
	}
	codes(t, l, release(3, table(2), 0), 6)
	codes(t, l, release(2, db(), 0), 6)
	codes(t, l, pass(3, table(2), 0))
	codes(t, l, pass(2, db(), 0))
}

func TestP15_2ReleaseAll(t *testing.T) {
	a, b, c := held(1, db(), ix), held(1, table(2), s), held(3, db(), is)
	l := list(a, b, c)
	steps(t, l, releaseAll(1, api.Granted), c)
	steps(t, l, releaseAll(3, api.Granted), a, b)
	steps(t, l, releaseAll(2, api.Granted), a, b, c)
	steps(t, nil, releaseAll(2, api.Granted))
	for txn := range 4 {
		act := releaseAll(txn, 0)
		codes(t, l, act, 1)
		codes(t, nil, act, 1)
		act.Name, act.Mode = api.Name{Table: 500, Record: 500}, 99
		codes(t, l, act, 1)
	}
}

func TestP15_2OtherKinds(t *testing.T) {
	l := list(held(1, db(), ix))
	for _, kind := range []int{math.MinInt, -1, 0, 5, 6, 11, math.MaxInt} {
		codes(t, l, api.Act{Kind: kind, Txn: 1, Name: db(), Mode: ix})
		codes(t, nil, api.Act{Kind: kind})
	}
}

func TestP15_2StatesThatAreNotValid(t *testing.T) {
	acts := []api.Act{acquire(5, table(9), s, 1), release(1, db(), 1), release(9, db(), 6), releaseAll(1, 1), pass(1, db(), 1), acquire(1, db(), 0, 6)}
	for _, l := range notValid() {
		for _, a := range acts {
			codes(t, l, a)
			stepsNot(t, l, a)
			runsNot(t, l, 0, a)
			runsNot(t, l, 0, releaseAll(1, 9), a)
		}
		runsNot(t, l, 0)
	}
}

func runs(t *testing.T, l []api.Held, want []api.Held, acts ...api.Act) {
	t.Helper()
	if got, at, ok := automaton.Run(l, acts); !ok || at != 0 || !slices.Equal(got, want) {
		t.Errorf("Run(%v, %v) = %v, %d, %v, want %v", l, acts, got, at, ok, want)
	}
}

func runsNot(t *testing.T, l []api.Held, want int, acts ...api.Act) {
	t.Helper()
	if got, at, ok := automaton.Run(l, acts); ok || at != want || len(got) != 0 {
		t.Errorf("Run(%v, %v) = %v, %d, %v, want index %d", l, acts, got, at, ok, want)
	}
}

func TestP15_2Run(t *testing.T) {
	runs(t, nil, nil)
	one := list(held(1, db(), s))
	runs(t, one, one)
	runs(t, nil, list(held(1, table(0), six)), acquire(1, table(0), s, 1), acquire(1, table(0), ix, 1))
	acts := []api.Act{
		acquire(1, db(), ix, api.Granted),
		acquire(2, db(), s, api.Timeout),
		acquire(2, db(), is, api.Granted),
		acquire(2, record(0, 0), 0, api.Misuse),
		release(2, table(0), api.Misuse),
		pass(1, db(), api.Granted),
		acquire(2, db(), x, api.Granted),
		releaseAll(1, api.Granted),
	}
	runs(t, nil, list(held(2, db(), x)), acts...)
	for at, a := range acts {
		a.Code = api.Exists
		wrong := slices.Clone(acts)
		wrong[at] = a
		runsNot(t, nil, at, wrong...)
		// What is wrong behind the first one counts for nothing.
		wrong[len(acts)-1].Code = 0
		runsNot(t, nil, at, wrong...)
	}
	runsNot(t, nil, 6, acts[0], acts[1], acts[2], acts[3], acts[4], acts[7], acquire(1, db(), x, 1))
	runsNot(t, one, 0, acquire(2, db(), x, 1))
}

func TestExample(t *testing.T) {
	l := list(held(1, table(0), x))
	if got := automaton.Codes(l, acquire(2, table(0), s, 0)); !slices.Equal(got, []int{2, 3, 4, 5}) {
		t.Errorf("Codes = %v", got)
	}
}

// Example 4 of the whole.
func TestSAndThenIXIsSIX(t *testing.T) {
	runs(t, nil, list(held(1, table(0), six)), acquire(1, table(0), s, 1), acquire(1, table(0), ix, 1))
}
