package queue

import (
	"math"
	"slices"

	"latchstring/api"
	"latchstring/mode"
)

// line is a head in which requests are granted; its queue is new memory.
type line struct {
	api.Head
	held map[api.Mode]int // how many requests have each mode, so that no grant has to look at all of them
}

func lineOf(h api.Head) *line {
	l := &line{Head: h, held: map[api.Mode]int{}}
	l.Queue = slices.Clone(h.Queue)
	for _, r := range l.Queue {
		l.held[r.Mode]++
	}
	return l
}

// add puts a request behind all others, and returns its place.
func (l *line) add(r api.Request) int {
	l.Queue = append(l.Queue, r)
	l.held[r.Mode]++
	return len(l.Queue) - 1
}

// fits reports whether m is compatible with what all requests hold, except for one that has own.
func (l *line) fits(own, m api.Mode) bool {
	for other, n := range l.held {
		if other == own {
			n--
		}
		if n > 0 && !mode.Compatible(other, m) {
			return false
		}
	}
	return true
}

// enter grants the request at a place what it wants, and reports whether that was possible at once; otherwise it waits from now on.
func (l *line) enter(place int) bool {
	r := &l.Queue[place]
	r.Since = min(l.Waits, math.MaxInt-1) + 1 // without overflow, even for a head that is not valid
	if l.fits(r.Mode, r.Want) && !slices.ContainsFunc(l.Queue, aheadOf(*r)) {
		l.grant(place)
		return true
	}
	l.Waits = r.Since
	return false
}

// grant lets the request at a place hold what it wants. It stays there: the first of those that hold nothing stands behind all that hold.
func (l *line) grant(place int) {
	r := &l.Queue[place]
	l.held[r.Mode]--
	r.Mode, r.Since = r.Want, 0
	l.held[r.Mode]++
}

// grants grants requests as long as one can be granted, and yields the ID of each.
func (l *line) grants(yield func(id int) bool) {
	for _, place := range l.turns() {
		r := l.Queue[place]
		// It stands in the way of all whose turns are later.
		if !l.fits(r.Mode, r.Want) {
			return
		}
		l.grant(place)
		if !yield(r.ID) {
			return
		}
	}
}

// turns returns the places of the requests that wait, in the order of their turns.
func (l *line) turns() []int {
	var places []int
	for place, r := range l.Queue {
		if waits(r) {
			places = append(places, place)
		}
	}
	slices.SortStableFunc(places, func(a, b int) int { return byTurn(l.Queue[a], l.Queue[b]) })
	return places
}
