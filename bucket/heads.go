package bucket

import (
	"cmp"
	"maps"
	"slices"

	"latchstring/api"
	"latchstring/queue"
)

// each yields the heads by ascending names.
func (b *Bucket) each(yield func(h *api.Head) bool) {
	for _, n := range slices.SortedFunc(maps.Keys(b.heads), byPlace) {
		if !yield(b.heads[n]) {
			return
		}
	}
}

// byPlace compares names by their tables, then by their records.
func byPlace(a, b api.Name) int {
	return cmp.Or(cmp.Compare(a.Table, b.Table), cmp.Compare(a.Record, b.Record))
}

// at returns the head of n, without requests if there is none.
func (b *Bucket) at(n api.Name) api.Head {
	if h, is := b.heads[n]; is {
		return *h
	}
	return api.Head{Name: n}
}

// with returns the head that has a request with that ID, the zero one if there is none.
func (b *Bucket) with(id int) api.Head {
	for h := range b.each {
		if _, is := queue.Find(*h, id); is {
			return *h
		}
	}
	return api.Head{}
}

// settle ends all calls that change a head: it grants what can be granted now, and keeps the head as long as it has a request. It returns the IDs that were granted, in order.
func (b *Bucket) settle(h api.Head) []int {
	h, granted := queue.Scan(h)
	if len(h.Queue) == 0 {
		delete(b.heads, h.Name)
		return granted
	}
	b.heads[h.Name] = &h
	return granted
}
