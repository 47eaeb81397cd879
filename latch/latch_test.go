package latch_test

import (
	"math"
	"math/rand"
	"slices"
	"testing"

	"latchstring/api"
	"latchstring/latch"
)

// The tests write the limits as the chapter says them.
const (
	most    = 16
	threads = 8
)

// nobody is what the tests write for the holder of a free latch.
const nobody = -1

// free is n latches that nobody holds.
func free(n int) []int { return slices.Repeat([]int{nobody}, n) }

func newLatches(t *testing.T, n int) *latch.Latches {
	t.Helper()
	l, e := latch.New(n)
	if e != api.OK || l == nil {
		t.Fatalf("New(%d) = %v, %d", n, l, e)
	}
	return l
}

// try tries a latch, with what that must return.
func try(t *testing.T, l *latch.Latches, latch, thread int, want bool, err api.Errno) {
	t.Helper()
	if is, e := l.Try(latch, thread); is != want || e != err {
		t.Errorf("Try(%d, %d) = %v, %d, want %v, %d", latch, thread, is, e, want, err)
	}
}

// give frees a latch, with what that must return.
func give(t *testing.T, l *latch.Latches, latch, thread int, err api.Errno) {
	t.Helper()
	if e := l.Free(latch, thread); e != err {
		t.Errorf("Free(%d, %d) = %d, want %d", latch, thread, e, err)
	}
}

// holds holds all that latches tell against who must hold each of them.
func holds(t *testing.T, l *latch.Latches, holders ...int) {
	t.Helper()
	if got := l.Len(); got != len(holders) {
		t.Errorf("Len() = %d, want %d", got, len(holders))
	}
	held := map[int][]int{}
	taken := 0
	for i, who := range holders {
		got, is := l.Holder(i)
		if who == nobody && (is || got != 0) || who != nobody && (!is || got != who) {
			t.Errorf("Holder(%d) = %d, %v, want %d", i, got, is, who)
		}
		if who != nobody {
			held[who] = append(held[who], i)
			taken++
		}
	}
	if got := l.Taken(); got != taken {
		t.Errorf("Taken() = %d, want %d", got, taken)
	}
	for who := range threads {
		if got := l.Held(who); !slices.Equal(got, held[who]) {
			t.Errorf("Held(%d) = %v, want %v", who, got, held[who])
		}
	}
	for _, who := range noThreads() {
		if got := l.Held(who); len(got) != 0 {
			t.Errorf("Held(%d) = %v", who, got)
		}
	}
	for _, i := range noLatches(len(holders)) {
		if got, is := l.Holder(i); is || got != 0 {
			t.Errorf("Holder(%d) = %d, %v", i, got, is)
		}
	}
}

// noThreads is numbers that no thread has; some are those of threads when cut to 32, 16 or 8 bits.
func noThreads() []int {
	return []int{-1, -2, -8, 8, 9, 16, 255, 256, 1 << 16, 1<<16 + 1, 1 << 32, 1<<32 + 7, math.MaxInt32, math.MinInt32, math.MaxInt - 1, math.MaxInt, math.MinInt, math.MinInt + 1}
}

// noLatches is numbers that none of n latches has.
func noLatches(n int) []int {
	return []int{-1, -2, -n, n, n + 1, 16, 17, 256, 1 << 16, 1<<16 + 1, 1 << 32, 1<<32 + n - 1, math.MaxInt32, math.MinInt32, math.MaxInt - 1, math.MaxInt, math.MinInt, math.MinInt + 1}
}

func TestP5_1New(t *testing.T) {
	for n := 1; n <= most; n++ {
		holds(t, newLatches(t, n), free(n)...)
	}
}

func TestP5_1NewOfOtherNumbers(t *testing.T) {
	for _, n := range []int{0, -1, -2, -16, 17, 18, 32, 255, 256, 257, 1<<16 + 4, 1<<32 + 4, math.MaxInt32, math.MinInt32, math.MaxInt - 1, math.MaxInt, math.MinInt, math.MinInt + 1, math.MinInt + 4} {
		if l, e := latch.New(n); l != nil || e != api.ErrArg {
			t.Errorf("New(%d) = %v, %d", n, l, e)
		}
	}
}

func TestP5_1LatchesAreApart(t *testing.T) {
	a, b := newLatches(t, 2), newLatches(t, 2)
	try(t, a, 0, 1, true, api.OK)
	holds(t, b, nobody, nobody)
	try(t, b, 0, 2, true, api.OK)
	try(t, b, 1, 1, true, api.OK)
	give(t, b, 1, 1, api.OK)
	holds(t, a, 1, nobody)
	holds(t, b, 2, nobody)
}

// Each latch of each number of them, with each thread.
func TestP5_1TryAndFree(t *testing.T) {
	for n := 1; n <= most; n++ {
		l := newLatches(t, n)
		want := free(n)
		for i := range n {
			for who := range threads {
				try(t, l, i, who, true, api.OK)
				want[i] = who
				holds(t, l, want...)
				give(t, l, i, who, api.OK)
				want[i] = nobody
				holds(t, l, want...)
			}
		}
	}
}

func TestP5_1TryOfOneThatIsHeld(t *testing.T) {
	for who := range threads {
		l := newLatches(t, 3)
		try(t, l, 1, who, true, api.OK)
		for range 2 {
			for other := range threads {
				if other == who {
					try(t, l, 1, other, false, api.ErrTwice)
				} else {
					try(t, l, 1, other, false, api.OK)
				}
				holds(t, l, nobody, who, nobody)
			}
		}
		// That a latch is held does not count for the others.
		try(t, l, 0, who, true, api.OK)
		try(t, l, 2, (who+1)%threads, true, api.OK)
		holds(t, l, who, who, (who+1)%threads)
	}
}

func TestP5_1FreeOfOneThatIsNotHeldByTheThread(t *testing.T) {
	for who := range threads {
		l := newLatches(t, 3)
		for i := range 3 {
			give(t, l, i, who, api.ErrOwn)
		}
		holds(t, l, nobody, nobody, nobody)
		try(t, l, 1, who, true, api.OK)
		for other := range threads {
			if other != who {
				give(t, l, 1, other, api.ErrOwn)
			}
			give(t, l, 0, other, api.ErrOwn)
			holds(t, l, nobody, who, nobody)
		}
		give(t, l, 1, who, api.OK)
		give(t, l, 1, who, api.ErrOwn)
		holds(t, l, nobody, nobody, nobody)
	}
}

// Whoever tried in vain gets nothing when the latch is freed.
func TestP5_1FreeGivesTheLatchToNobody(t *testing.T) {
	l := newLatches(t, 1)
	try(t, l, 0, 0, true, api.OK)
	try(t, l, 0, 3, false, api.OK)
	give(t, l, 0, 0, api.OK)
	holds(t, l, nobody)
	give(t, l, 0, 3, api.ErrOwn)
	try(t, l, 0, 7, true, api.OK)
	holds(t, l, 7)
}

func TestP5_1NoSuchLatch(t *testing.T) {
	for n := 1; n <= most; n++ {
		l := newLatches(t, n)
		for i := range n {
			try(t, l, i, i%threads, true, api.OK)
		}
		for _, i := range noLatches(n) {
			for who := range threads {
				try(t, l, i, who, false, api.ErrArg)
				give(t, l, i, who, api.ErrArg)
			}
		}
		for i := range n {
			give(t, l, i, i%threads, api.OK)
		}
		holds(t, l, free(n)...)
	}
}

func TestP5_1NoSuchThread(t *testing.T) {
	l := newLatches(t, 4)
	try(t, l, 1, 0, true, api.OK)
	try(t, l, 2, 7, true, api.OK)
	for _, who := range noThreads() {
		for i := range 4 {
			try(t, l, i, who, false, api.ErrArg)
			give(t, l, i, who, api.ErrArg)
		}
		for _, i := range noLatches(4) {
			try(t, l, i, who, false, api.ErrArg)
			give(t, l, i, who, api.ErrArg)
		}
	}
	holds(t, l, nobody, 0, 7, nobody)
}

// Thread 0 and latch 0 are ones as all others.
func TestP5_2HolderZero(t *testing.T) {
	l := newLatches(t, 2)
	if who, is := l.Holder(0); who != 0 || is {
		t.Errorf("Holder(0) of a free latch = %d, %v", who, is)
	}
	try(t, l, 0, 0, true, api.OK)
	if who, is := l.Holder(0); who != 0 || !is {
		t.Errorf("Holder(0) = %d, %v", who, is)
	}
	if got := l.Held(0); !slices.Equal(got, []int{0}) {
		t.Errorf("Held(0) = %v", got)
	}
}

// However latches were taken, they are told ascending.
func TestP5_2HeldIsAscending(t *testing.T) {
	r := rand.New(rand.NewSource(5))
	for range 100 {
		l := newLatches(t, most)
		want := free(most)
		for _, i := range r.Perm(most) {
			want[i] = r.Intn(3)
			try(t, l, i, want[i], true, api.OK)
			holds(t, l, want...)
		}
		for _, i := range r.Perm(most) {
			give(t, l, i, want[i], api.OK)
			want[i] = nobody
			holds(t, l, want...)
		}
	}
}

func TestP5_2AllHeldByOne(t *testing.T) {
	for n := 1; n <= most; n++ {
		l := newLatches(t, n)
		for i := range n {
			try(t, l, n-1-i, 7, true, api.OK)
		}
		holds(t, l, slices.Repeat([]int{7}, n)...)
		for i := range n {
			try(t, l, i, 7, false, api.ErrTwice)
			try(t, l, i, 0, false, api.OK)
		}
		holds(t, l, slices.Repeat([]int{7}, n)...)
	}
}

func TestP5_2HeldIsNewMemory(t *testing.T) {
	l := newLatches(t, 5)
	for _, i := range []int{0, 2, 3} {
		try(t, l, i, 1, true, api.OK)
	}
	a, b := l.Held(1), l.Held(1)
	a = a[:cap(a)]
	for i := range a {
		a[i] = 99
	}
	if !slices.Equal(b, []int{0, 2, 3}) {
		t.Errorf("another result became %v", b)
	}
	holds(t, l, 1, nobody, 1, 1, nobody)
	try(t, l, 4, 1, true, api.OK)
	give(t, l, 0, 1, api.OK)
	l.Held(1)
	for _, x := range a {
		if x != 99 {
			t.Errorf("later calls changed what Held returned to %v", a)
		}
	}
}

// notMade is latches that New did not return.
func notMade(t *testing.T) map[string]*latch.Latches {
	made := newLatches(t, 3)
	try(t, made, 1, 1, true, api.OK)
	copied := *made
	return map[string]*latch.Latches{"nil": nil, "the zero latches": {}, "a copy": &copied}
}

func TestInvalidLatches(t *testing.T) {
	for what, l := range notMade(t) {
		for _, i := range append([]int{0, 1, 2, 3, 15}, noLatches(3)...) {
			for _, who := range append([]int{0, 1, 2, 7}, noThreads()...) {
				if is, e := l.Try(i, who); is || e != api.ErrNil {
					t.Errorf("%s: Try(%d, %d) = %v, %d", what, i, who, is, e)
				}
				if e := l.Free(i, who); e != api.ErrNil {
					t.Errorf("%s: Free(%d, %d) = %d", what, i, who, e)
				}
				if got := l.Held(who); len(got) != 0 {
					t.Errorf("%s: Held(%d) = %v", what, who, got)
				}
			}
			if who, is := l.Holder(i); is || who != 0 {
				t.Errorf("%s: Holder(%d) = %d, %v", what, i, who, is)
			}
		}
		if l.Len() != 0 || l.Taken() != 0 {
			t.Errorf("%s: Len() = %d, Taken() = %d", what, l.Len(), l.Taken())
		}
	}
}

func TestACopyLeavesTheLatchesAsTheyAre(t *testing.T) {
	l := newLatches(t, 3)
	try(t, l, 1, 1, true, api.OK)
	c := *l
	c.Try(0, 2)
	c.Free(1, 1)
	holds(t, l, nobody, 1, nobody)
}

// plain is latches as the chapter's words say them: the holder of each.
type plain []int

func (p plain) valid(latch, thread int) bool {
	return latch >= 0 && latch < len(p) && thread >= 0 && thread < threads
}

func (p plain) try(latch, thread int) (bool, api.Errno) {
	if !p.valid(latch, thread) {
		return false, api.ErrArg
	}
	if p[latch] == thread {
		return false, api.ErrTwice
	}
	if p[latch] != nobody {
		return false, api.OK
	}
	p[latch] = thread
	return true, api.OK
}

func (p plain) free(latch, thread int) api.Errno {
	if !p.valid(latch, thread) {
		return api.ErrArg
	}
	if p[latch] != thread {
		return api.ErrOwn
	}
	p[latch] = nobody
	return api.OK
}

// All calls, in a mixture that is the same in each run, against the plain latches.
func TestAgainstPlainLatches(t *testing.T) {
	for seed := range 80 {
		r := rand.New(rand.NewSource(int64(seed)))
		n := seed%most + 1
		l, p := newLatches(t, n), plain(free(n))
		for range 400 {
			i, who := r.Intn(n+2)-1, r.Intn(threads+2)-1
			if r.Intn(2) == 0 && p.valid(i, 0) && p[i] != nobody {
				who = p[i]
			}
			if r.Intn(2) == 0 {
				is, e := p.try(i, who)
				try(t, l, i, who, is, e)
			} else {
				give(t, l, i, who, p.free(i, who))
			}
			holds(t, l, p...)
			if t.Failed() {
				t.Fatalf("seed %d", seed)
			}
		}
	}
}

// each does something with latches in each state that three of them and three threads can have.
func each(t *testing.T, do func(l *latch.Latches, holders []int)) {
	for state := range 4 * 4 * 4 {
		holders := []int{state%4 - 1, state/4%4 - 1, state/16 - 1}
		l := newLatches(t, 3)
		for i, who := range holders {
			if who != nobody {
				try(t, l, i, who, true, api.OK)
			}
		}
		holds(t, l, holders...)
		do(l, holders)
	}
}

func TestP5_3NoLatchIsHeldByTwo(t *testing.T) {
	each(t, func(l *latch.Latches, holders []int) {
		for i := range holders {
			for who := range threads {
				l.Try(i, who)
			}
		}
		seen := map[int]bool{}
		for who := range threads {
			for _, i := range l.Held(who) {
				if seen[i] {
					t.Errorf("from %v: two threads hold latch %d", holders, i)
				}
				if h, is := l.Holder(i); !is || h != who {
					t.Errorf("from %v: thread %d holds latch %d, of which the holder is %d, %v", holders, who, i, h, is)
				}
				seen[i] = true
			}
		}
		if len(seen) != 3 || l.Taken() != 3 {
			t.Errorf("from %v: %d are held, %d taken", holders, len(seen), l.Taken())
		}
	})
}

func TestP5_3TryingAndFreeingRestoresTheState(t *testing.T) {
	each(t, func(l *latch.Latches, holders []int) {
		for i := range holders {
			for who := range threads {
				if is, e := l.Try(i, who); is && e == api.OK {
					give(t, l, i, who, api.OK)
				}
				holds(t, l, holders...)
				if l.Free(i, who) == api.OK {
					try(t, l, i, who, true, api.OK)
				}
				holds(t, l, holders...)
			}
		}
	})
}

func TestExamples(t *testing.T) {
	l := newLatches(t, 1)
	try(t, l, 0, 1, true, api.OK)
	try(t, l, 0, 2, false, api.OK)
	give(t, l, 0, 1, api.OK)
	try(t, l, 0, 2, true, api.OK)
}
