package history

import (
	"slices"

	"latchstring/api"
)

// What the span of a call that has not ended has in the place of its end.
const pending = -1

// Spans returns the spans of the calls, in the order of their beginnings; those before the first wrong event, if there is one.
func Spans(l []api.Event) []api.Span {
	spans, _, _ := track(l)
	return spans
}

// pendingSpans returns the spans that have not ended.
func pendingSpans(l []api.Event) []api.Span { return slices.DeleteFunc(Spans(l), ended) }

// ended asks for no more than a number from 0 on: the span may be any one.
func ended(s api.Span) bool { return s.To >= 0 }

// Pending returns the calls that have not ended, in the order of their beginnings.
func Pending(l []api.Event) []int {
	var calls []int
	for _, s := range pendingSpans(l) {
		calls = append(calls, s.Call)
	}
	return calls
}

// Before reports whether a has ended before b began.
func Before(a, b api.Span) bool { return ended(a) && a.To < b.From }

// Respects reports whether the order contains each span once, and none comes before one that is Before it.
func Respects(l []api.Span, order []int) bool {
	return permutes(order, len(l)) && keeps(l, order, Before)
}

// permutes reports whether the order contains each of the indexes below n once.
func permutes(order []int, n int) bool {
	if len(order) != n {
		return false
	}
	seen := make([]bool, n)
	for _, i := range order {
		if i < 0 || i >= n || seen[i] {
			return false
		}
		seen[i] = true
	}
	return true
}

// keeps reports whether no span comes, in the order, before one that is before it.
func keeps(l []api.Span, order []int, before func(a, b api.Span) bool) bool {
	// Of the spans that came, the one that began last tells for all of them; at first, no span is before the zero one.
	var last api.Span
	for _, i := range order {
		if before(l[i], last) {
			return false
		}
		if l[i].From > last.From {
			last = l[i]
		}
	}
	return true
}
