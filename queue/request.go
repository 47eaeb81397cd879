package queue

import (
	"cmp"
	"slices"

	"latchstring/api"
	"latchstring/mode"
)

// What stands for the place of a request that is not there.
const nowhere = -1

func holds(r api.Request) bool { return r.Mode != api.None }

func waits(r api.Request) bool { return r.Since > 0 }

// lockable reports whether m can be asked for.
func lockable(m api.Mode) bool { return m != api.None && mode.Known(m) }

// find returns the place of the first request that is the one looked for.
func find(h api.Head, is func(r api.Request) bool) int { return slices.IndexFunc(h.Queue, is) }

func withID(id int) func(r api.Request) bool {
	return func(r api.Request) bool { return r.ID == id }
}

func ofTxn(txn int) func(r api.Request) bool {
	return func(r api.Request) bool { return r.Txn == txn }
}

// without returns h without a request.
func without(h api.Head, id int) api.Head {
	h.Queue = slices.DeleteFunc(slices.Clone(h.Queue), withID(id))
	return h
}

// byTurn compares requests that wait by who is granted first: those that upgrade come before the others, and each of them in the order in which the waits began.
func byTurn(a, b api.Request) int {
	return cmp.Or(byHolding(a, b), cmp.Compare(a.Since, b.Since))
}

// byHolding puts those that hold before those that do not.
func byHolding(a, b api.Request) int {
	switch {
	case holds(a) == holds(b):
		return 0
	case holds(a):
		return -1
	}
	return 1
}

// aheadOf returns what reports whether a request waits, and is granted before w.
func aheadOf(w api.Request) func(r api.Request) bool {
	return func(r api.Request) bool { return waits(r) && byTurn(r, w) < 0 }
}
