package automaton_test

import (
	"math/rand"
	"slices"
	"testing"

	"latchstring/api"
	"latchstring/automaton"
)

// anyName is one of few names, some of them not valid.
func anyName(r *rand.Rand) api.Name {
	names := []api.Name{db(), table(0), table(1), record(0, 0), record(0, 1), {Table: -1, Record: 0}, {Table: 0, Record: 100}}
	if r.Intn(4) > 0 {
		return names[r.Intn(3)]
	}
	return names[r.Intn(len(names))]
}

func anyMode(r *rand.Rand) api.Mode {
	if r.Intn(8) == 0 {
		return api.Mode(r.Intn(12) - 3)
	}
	return api.Mode(1 + r.Intn(6))
}

func anyAct(r *rand.Rand) api.Act {
	a := api.Act{Kind: 1 + r.Intn(4), Txn: r.Intn(4), Name: anyName(r), Mode: anyMode(r), Code: api.Granted}
	if r.Intn(4) == 0 {
		a.Code = r.Intn(10) - 1
	}
	if r.Intn(20) == 0 {
		a.Kind = r.Intn(8) - 2
	}
	return a
}

// anyList is a list that need not be a state.
func anyList(r *rand.Rand) []api.Held {
	var l []api.Held
	for range r.Intn(5) {
		l = append(l, held(r.Intn(4), anyName(r), anyMode(r)))
	}
	if r.Intn(3) > 0 {
		slices.SortFunc(l, func(a, b api.Held) int {
			if plainLess(a, b) {
				return -1
			}
			return 1
		})
	}
	return l
}

// anyState is what random acts lead to.
func anyState(r *rand.Rand) []api.Held {
	var l []api.Held
	for range r.Intn(12) {
		if next, ok := plainStep(l, anyAct(r)); ok {
			l = next
		}
	}
	return l
}

func againstLists(t *testing.T, l []api.Held, r *rand.Rand) {
	want := api.ErrArg
	if plainValid(l) {
		want = api.OK
	}
	checks(t, want, l...)
	txn, n, m := r.Intn(4), anyName(r), anyMode(r)
	modeIs(t, l, txn, n, plainMode(l, txn, n))
	may(t, l, txn, n, m, plainMay(l, txn, n, m))
}

func againstSteps(t *testing.T, l []api.Held, a api.Act) {
	want, ok := plainStep(l, a)
	if got, is := automaton.Step(l, a); is != ok || !slices.Equal(got, want) {
		t.Errorf("Step(%v, %v) = %v, %v, want %v, %v", l, a, got, is, want, ok)
	}
	codes(t, l, a, plainCodes(l, a)...)
}

func TestAgainstPlainWords(t *testing.T) {
	r := rand.New(rand.NewSource(15))
	for range 20000 {
		l, state := anyList(r), anyState(r)
		againstLists(t, l, r)
		againstLists(t, state, r)
		againstSteps(t, l, anyAct(r))
		againstSteps(t, state, anyAct(r))
	}
}

func TestRunsAgainstPlainWords(t *testing.T) {
	r := rand.New(rand.NewSource(16))
	whole := 0
	for range 20000 {
		l := anyState(r)
		if r.Intn(8) == 0 {
			l = anyList(r)
		}
		var acts []api.Act
		for range r.Intn(6) {
			a := anyAct(r)
			if possible := plainCodes(anyState(r), a); r.Intn(3) > 0 && len(possible) > 0 {
				a.Code = possible[r.Intn(len(possible))]
			}
			acts = append(acts, a)
		}
		want, wantAt, ok := plainRun(l, acts)
		got, at, is := automaton.Run(l, acts)
		if is != ok || at != wantAt || !slices.Equal(got, want) {
			t.Fatalf("Run(%v, %v) = %v, %d, %v, want %v, %d, %v", l, acts, got, at, is, want, wantAt, ok)
		}
		if is && len(acts) > 2 {
			whole++
		}
	}
	if whole < 500 {
		t.Errorf("only %d runs of several acts", whole)
	}
}

func TestP15_3WhatResultsIsValid(t *testing.T) {
	r := rand.New(rand.NewSource(17))
	for range 20000 {
		l := anyState(r)
		a := anyAct(r)
		for _, a.Code = range automaton.Codes(l, a) {
			next, ok := automaton.Step(l, a)
			if !ok || automaton.Check(next) != api.OK {
				t.Fatalf("Step(%v, %v) = %v, %v", l, a, next, ok)
			}
			if a.Code != api.Granted && !slices.Equal(next, l) {
				t.Fatalf("Step(%v, %v) = %v", l, a, next)
			}
		}
	}
}

// An act that releases all is for no name: it may make way for the other one.
func TestP15_3EitherOrder(t *testing.T) {
	r := rand.New(rand.NewSource(18))
	seen := 0
	for seen < 5000 {
		l := anyState(r)
		a, b := anyAct(r), anyAct(r)
		a.Code, b.Code = api.Granted, api.Granted
		if a.Txn == b.Txn || a.Name == b.Name {
			continue
		}
		_, granted := automaton.Step(l, a)
		_, other := automaton.Step(l, b)
		if (a.Kind == api.ActReleaseAll || b.Kind == api.ActReleaseAll) && !(granted && other) {
			continue
		}
		first, _, is := automaton.Run(l, []api.Act{a, b})
		second, _, too := automaton.Run(l, []api.Act{b, a})
		if is != too || is != (granted && other) || !automaton.Same(first, second) {
			t.Fatalf("%v, then %v in either order: %v, %v; %v, %v", l, []api.Act{a, b}, first, is, second, too)
		}
		if is {
			seen++
		}
	}
}

// All hold the same name, so that looking at each pair would take long.
func TestLongLists(t *testing.T) {
	const many = 200000
	l := make([]api.Held, many)
	for i := range l {
		l[i] = held(i, db(), is)
	}
	l[many/2].Mode = six
	checks(t, api.OK, l...)
	if got, ok := automaton.Step(l, acquire(many, db(), is, api.Granted)); !ok || len(got) != many+1 {
		t.Error(len(got), ok)
	}
	codes(t, l, acquire(many, db(), ix, 0), 2, 3, 4, 5)
	l[many-1].Mode = ix
	checks(t, api.ErrArg, l...)
}

func TestLongRuns(t *testing.T) {
	const many = 10000
	var acts []api.Act
	for i := range many {
		acts = append(acts, acquire(i/1000, record(i/100%100, i%100), x, api.Granted))
	}
	for i := range many {
		acts = append(acts, release(i/1000, record(i/100%100, i%100), api.Granted))
	}
	runs(t, nil, nil, acts...)
	runsNot(t, nil, 2*many, append(acts, pass(0, record(0, 0), api.Granted))...)
}
