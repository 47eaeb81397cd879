package table

import (
	"cmp"
	"slices"

	"latchstring/api"
)

// Holds returns what txn holds, by ascending names.
func (t *Table) Holds(txn int) []api.Held {
	return t.held(func(r api.Request) bool { return r.Txn == txn })
}

// All returns what all transactions hold, by their numbers, then by ascending names.
func (t *Table) All() []api.Held {
	return t.held(func(r api.Request) bool { return true })
}

// held returns what those requests hold that are looked for, by their transactions, then by ascending names.
func (t *Table) held(is func(r api.Request) bool) []api.Held {
	var l []api.Held
	for _, h := range t.heads() {
		for _, r := range h.Queue {
			if r.Mode != api.None && is(r) {
				l = append(l, api.Held{Txn: r.Txn, Name: h.Name, Mode: r.Mode})
			}
		}
	}
	slices.SortFunc(l, func(a, b api.Held) int {
		return cmp.Or(cmp.Compare(a.Txn, b.Txn), byPlace(a.Name, b.Name))
	})
	return l
}

// byPlace compares names by their tables, then by their records.
func byPlace(a, b api.Name) int {
	return cmp.Or(cmp.Compare(a.Table, b.Table), cmp.Compare(a.Record, b.Record))
}

// Snapshot returns all heads by ascending names.
func (t *Table) Snapshot() []api.Head {
	l := t.heads()
	slices.SortFunc(l, func(a, b api.Head) int { return byPlace(a.Name, b.Name) })
	return l
}

// heads returns the heads of all buckets, one bucket after the other.
func (t *Table) heads() []api.Head {
	if !t.made() {
		return nil
	}
	var l []api.Head
	for _, b := range t.buckets {
		l = append(l, b.Heads()...)
	}
	return l
}

// Counts returns the number of heads, and that of requests.
func (t *Table) Counts() (heads, requests int) {
	if !t.made() {
		return 0, 0
	}
	for _, b := range t.buckets {
		heads += b.Len()
	}
	// The pool is only for the requests of this table, and each has a number of it.
	return heads, t.ids.Live()
}
