package queue

import (
	"slices"

	"latchstring/api"
	"latchstring/mode"
)

// The greatest number of waits of a valid head.
const maxWaits = 1 << 62

// Check returns ErrArg if h is not valid.
func Check(h api.Head) api.Errno {
	if !valid(h) {
		return api.ErrArg
	}
	return api.OK
}

func valid(h api.Head) bool {
	switch {
	case h.Waits < 0 || h.Waits > maxWaits:
		return false
	case slices.ContainsFunc(h.Queue, func(r api.Request) bool { return !formed(r, h.Waits) }):
		return false
	}
	return differ(h.Queue) && slices.IsSortedFunc(h.Queue, byPlace) && agree(h)
}

// formed reports whether r can be a request of a head with that many waits, whatever else is in it.
func formed(r api.Request, most int) bool {
	switch {
	case r.ID < 0 || r.Since < 0 || r.Since > most:
		return false
	case !mode.Known(r.Mode) || !mode.Known(r.Want):
		return false
	case waits(r):
		return !mode.Covers(r.Mode, r.Want)
	}
	return holds(r) && r.Want == r.Mode
}

// differ reports whether IDs and Txns of all requests are different, and Since of those that wait.
func differ(l []api.Request) bool {
	waiting := slices.DeleteFunc(slices.Clone(l), func(r api.Request) bool { return !waits(r) })
	return distinct(l, func(r api.Request) int { return r.ID }) &&
		distinct(l, func(r api.Request) int { return r.Txn }) &&
		distinct(waiting, func(r api.Request) int { return r.Since })
}

// distinct reports whether all requests have different numbers.
func distinct(l []api.Request, number func(r api.Request) int) bool {
	seen := map[int]struct{}{}
	for _, r := range l {
		seen[number(r)] = struct{}{}
	}
	return len(seen) == len(l)
}

// byPlace compares by where requests stand: those that hold come first, in any order, then the others as their waits began.
func byPlace(a, b api.Request) int {
	if holds(a) && holds(b) {
		return 0
	}
	return byTurn(a, b)
}

// agree reports whether what each request holds is compatible with what all others hold.
func agree(h api.Head) bool {
	l := lineOf(h)
	return !slices.ContainsFunc(l.Queue, func(r api.Request) bool { return !l.fits(r.Mode, r.Mode) })
}
