package ticks

import (
	"cmp"
	"container/heap"
	"iter"
	"slices"

	"latchstring/api"
)

// What stands for the place of a timer that is not set.
const nowhere = -1

// timerHeap is for package heap, which asks for its first five methods; the first timer in order is at index 0.
type timerHeap []api.Timer

// Len returns the number of timers.
func (l timerHeap) Len() int { return len(l) }

// Less orders by At, then Who, then Mark.
func (l timerHeap) Less(i, j int) bool {
	a, b := l[i], l[j]
	return cmp.Or(cmp.Compare(a.At, b.At), cmp.Compare(a.Who, b.Who), cmp.Compare(a.Mark, b.Mark)) < 0
}

// Swap changes the places of two timers.
func (l timerHeap) Swap(i, j int) { l[i], l[j] = l[j], l[i] }

// Push puts a timer at the end of the slice.
func (l *timerHeap) Push(x any) { *l = append(*l, x.(api.Timer)) }

// Pop takes the timer at the end of the slice away.
func (l *timerHeap) Pop() any {
	last := len(*l) - 1
	t := (*l)[last]
	*l = (*l)[:last]
	return t
}

// popUntil yields the timers that are not later than at, in order, and removes each one before it is yielded.
func (l *timerHeap) popUntil(at int64) iter.Seq[api.Timer] {
	return func(yield func(api.Timer) bool) {
		for len(*l) > 0 && (*l)[0].At <= at {
			if !yield(heap.Pop(l).(api.Timer)) {
				return
			}
		}
	}
}

// place returns the index of the timer of who with that mark. It looks at all of them: a heap is not in the order of owners.
func (l timerHeap) place(who, mark int) int {
	return slices.IndexFunc(l, func(t api.Timer) bool { return t.Who == who && t.Mark == mark })
}
