package automaton

import (
	"slices"

	"latchstring/api"
	"latchstring/mode"
)

// A rule returns the codes that an act may have in a valid state, ascending, and what makes the state after a Granted of it; that one uses up the state.
type rule func(s []api.Held, a api.Act) (codes []int, granted func() []api.Held)

// kinds returns the rules of the kinds of acts.
func kinds() map[int]rule {
	return map[int]rule{
		api.ActAcquire:    acquire,
		api.ActRelease:    release,
		api.ActReleaseAll: releaseAll,
		api.ActPass:       pass,
	}
}

// ask follows the rule of an act's kind; an act of another kind has no results.
func ask(rules map[int]rule, s []api.Held, a api.Act) ([]int, func() []api.Held) {
	r, is := rules[a.Kind]
	if !is {
		r = func([]api.Held, api.Act) ([]int, func() []api.Held) { return nil, nil }
	}
	return r(s, a)
}

func acquire(s []api.Held, a api.Act) ([]int, func() []api.Held) {
	if !acquirable(a.Name, a.Mode) {
		return []int{api.Misuse}, nil
	}
	codes := []int{api.Timeout, api.Cancelled, api.Deadlock, api.Full}
	if !May(s, a.Txn, a.Name, a.Mode) {
		return codes, nil
	}
	granted := func() []api.Held {
		i, holds := find(s, a.Txn, a.Name)
		if !holds {
			return slices.Insert(s, i, api.Held{Txn: a.Txn, Name: a.Name, Mode: a.Mode})
		}
		s[i].Mode = mode.Sup(s[i].Mode, a.Mode)
		return s
	}
	return slices.Insert(codes, 0, api.Granted), granted
}

func release(s []api.Held, a api.Act) ([]int, func() []api.Held) {
	codes, granted := pass(s, a)
	if len(codes) == 0 {
		return []int{api.Misuse}, nil
	}
	return codes, granted
}

func pass(s []api.Held, a api.Act) ([]int, func() []api.Held) {
	i, holds := find(s, a.Txn, a.Name)
	if !holds {
		return nil, nil
	}
	return []int{api.Granted}, func() []api.Held { return slices.Delete(s, i, i+1) }
}

func releaseAll(s []api.Held, a api.Act) ([]int, func() []api.Held) {
	return []int{api.Granted}, func() []api.Held {
		return slices.DeleteFunc(s, func(h api.Held) bool { return h.Txn == a.Txn })
	}
}
