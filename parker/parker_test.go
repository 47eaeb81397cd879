package parker_test

import (
	"math"
	"math/rand"
	"slices"
	"testing"

	"latchstring/api"
	"latchstring/parker"
)

// most is the limit as the chapter says it.
const most = 8

// state is what a thread is, as the chapter's words say it.
type state int

const (
	running state = iota
	ready         // it is running, and has a token
	parked
)

// allRunning is n threads as New makes them.
func allRunning(n int) []state { return make([]state, n) }

func newParker(t *testing.T, n int) *parker.Parker {
	t.Helper()
	p, e := parker.New(n)
	if e != api.OK || p == nil {
		t.Fatalf("New(%d) = %v, %d", n, p, e)
	}
	return p
}

// inStates is a parker whose threads are in these states.
func inStates(t *testing.T, want ...state) *parker.Parker {
	t.Helper()
	p := newParker(t, len(want))
	for i, s := range want {
		switch s {
		case ready:
			unpark(t, p, i, false, api.OK)
		case parked:
			park(t, p, i, false, api.OK)
		}
	}
	is(t, p, want...)
	return p
}

// park parks a thread, with what that must return.
func park(t *testing.T, p *parker.Parker, thread int, want bool, err api.Errno) {
	t.Helper()
	if runs, e := p.Park(thread); runs != want || e != err {
		t.Errorf("Park(%d) = %v, %d, want %v, %d", thread, runs, e, want, err)
	}
}

// unpark unparks a thread, with what that must return.
func unpark(t *testing.T, p *parker.Parker, thread int, want bool, err api.Errno) {
	t.Helper()
	if was, e := p.Unpark(thread); was != want || e != err {
		t.Errorf("Unpark(%d) = %v, %d, want %v, %d", thread, was, e, want, err)
	}
}

// drop drops the token of a thread, with what that must return.
func drop(t *testing.T, p *parker.Parker, thread int, want bool) {
	t.Helper()
	if had := p.Drop(thread); had != want {
		t.Errorf("Drop(%d) = %v, want %v", thread, had, want)
	}
}

// is holds all that a parker tells against what each of its threads must be.
func is(t *testing.T, p *parker.Parker, want ...state) {
	t.Helper()
	if got := p.Len(); got != len(want) {
		t.Errorf("Len() = %d, want %d", got, len(want))
	}
	var waiting []int
	for i, s := range want {
		if got := p.Parked(i); got != (s == parked) {
			t.Errorf("Parked(%d) = %v in %v", i, got, want)
		}
		if got := p.Token(i); got != (s == ready) {
			t.Errorf("Token(%d) = %v in %v", i, got, want)
		}
		if s == parked {
			waiting = append(waiting, i)
		}
	}
	if got := p.Waiting(); !slices.Equal(got, waiting) {
		t.Errorf("Waiting() = %v, want %v", got, waiting)
	}
	for _, i := range noThreads(len(want)) {
		if p.Parked(i) || p.Token(i) {
			t.Errorf("Parked(%d) = %v, Token(%d) = %v", i, p.Parked(i), i, p.Token(i))
		}
	}
}

// noThreads is numbers that none of n threads has; some are those of threads when cut to 32, 16 or 8 bits, or doubled.
func noThreads(n int) []int {
	return []int{-1, -2, -n, n, n + 1, 8, 9, 15, 16, 31, 32, 63, 64, 255, 256, 1 << 16, 1<<16 + 1, 1 << 32, 1<<32 + n - 1, 1 << 62, 1<<62 + n - 1, math.MaxInt32, math.MinInt32, math.MaxInt - 1, math.MaxInt, math.MinInt, math.MinInt + 1}
}

func TestP6_1New(t *testing.T) {
	for n := 1; n <= most; n++ {
		is(t, newParker(t, n), allRunning(n)...)
	}
}

func TestP6_1NewOfOtherNumbers(t *testing.T) {
	for _, n := range []int{0, -1, -2, -8, 9, 10, 16, 32, 255, 256, 257, 1<<16 + 4, 1<<32 + 4, math.MaxInt32, math.MinInt32, math.MaxInt - 1, math.MaxInt, math.MinInt, math.MinInt + 1, math.MinInt + 4} {
		if p, e := parker.New(n); p != nil || e != api.ErrArg {
			t.Errorf("New(%d) = %v, %d", n, p, e)
		}
	}
}

func TestP6_1ParkersAreApart(t *testing.T) {
	a, b := newParker(t, 2), newParker(t, 2)
	park(t, a, 0, false, api.OK)
	is(t, b, running, running)
	unpark(t, b, 0, false, api.OK)
	park(t, b, 1, false, api.OK)
	is(t, a, parked, running)
	is(t, b, ready, parked)
}

// Each thread of each number of them: that it parks leaves the others as they are.
func TestP6_1ParkAndUnpark(t *testing.T) {
	for n := 1; n <= most; n++ {
		p, want := newParker(t, n), allRunning(n)
		for i := range n {
			park(t, p, i, false, api.OK)
			want[i] = parked
			is(t, p, want...)
			unpark(t, p, i, true, api.OK)
			want[i] = running
			is(t, p, want...)
			unpark(t, p, i, false, api.OK)
			want[i] = ready
			is(t, p, want...)
		}
		for i := range n {
			park(t, p, i, true, api.OK)
			want[i] = running
			is(t, p, want...)
			park(t, p, i, false, api.OK)
			want[i] = parked
			is(t, p, want...)
		}
	}
}

func TestP6_1ParkOfOneThatIsParked(t *testing.T) {
	for i := range most {
		p, want := newParker(t, most), allRunning(most)
		park(t, p, i, false, api.OK)
		want[i] = parked
		for range 3 {
			park(t, p, i, false, api.ErrTwice)
			is(t, p, want...)
		}
		// It was parked once: it runs after one Unpark, without a token.
		unpark(t, p, i, true, api.OK)
		want[i] = running
		is(t, p, want...)
	}
}

func TestP6_1TokenIsASingleOne(t *testing.T) {
	for i := range most {
		p, want := newParker(t, most), allRunning(most)
		want[i] = ready
		for range 5 {
			unpark(t, p, i, false, api.OK)
			is(t, p, want...)
		}
		park(t, p, i, true, api.OK)
		want[i] = running
		is(t, p, want...)
		park(t, p, i, false, api.OK)
		want[i] = parked
		is(t, p, want...)
	}
}

// Whoever was parked has no token when it runs again, but may get one then.
func TestP6_1UnparkTwice(t *testing.T) {
	p := inStates(t, running, parked, running)
	unpark(t, p, 1, true, api.OK)
	is(t, p, running, running, running)
	unpark(t, p, 1, false, api.OK)
	unpark(t, p, 1, false, api.OK)
	is(t, p, running, ready, running)
	park(t, p, 1, true, api.OK)
	park(t, p, 1, false, api.OK)
	park(t, p, 1, false, api.ErrTwice)
	is(t, p, running, parked, running)
}

func TestP6_1NoSuchThread(t *testing.T) {
	for n := 1; n <= most; n++ {
		for _, s := range []state{running, ready, parked} {
			want := slices.Repeat([]state{s}, n)
			p := inStates(t, want...)
			for _, i := range noThreads(n) {
				park(t, p, i, false, api.ErrArg)
				unpark(t, p, i, false, api.ErrArg)
				drop(t, p, i, false)
			}
			is(t, p, want...)
		}
	}
}

func TestP6_2Drop(t *testing.T) {
	for i := range most {
		p, want := newParker(t, most), slices.Repeat([]state{ready}, most)
		for k := range most {
			unpark(t, p, k, false, api.OK)
		}
		drop(t, p, i, true)
		want[i] = running
		is(t, p, want...)
		drop(t, p, i, false)
		is(t, p, want...)
		// Without the token it parks, and a parked one has none to drop.
		park(t, p, i, false, api.OK)
		want[i] = parked
		drop(t, p, i, false)
		is(t, p, want...)
	}
}

func TestP6_2DropOfATokenGivenMoreThanOnce(t *testing.T) {
	p := newParker(t, 1)
	for range 3 {
		unpark(t, p, 0, false, api.OK)
	}
	drop(t, p, 0, true)
	drop(t, p, 0, false)
	is(t, p, running)
}

// In whatever order threads were parked, they are told ascending.
func TestP6_2WaitingIsAscending(t *testing.T) {
	r := rand.New(rand.NewSource(6))
	for range 100 {
		p, want := newParker(t, most), allRunning(most)
		for _, i := range r.Perm(most) {
			park(t, p, i, false, api.OK)
			want[i] = parked
			is(t, p, want...)
		}
		for _, i := range r.Perm(most) {
			unpark(t, p, i, true, api.OK)
			want[i] = running
			is(t, p, want...)
		}
	}
}

func TestP6_2WaitingIsNewMemory(t *testing.T) {
	p := inStates(t, parked, running, parked, parked, running)
	a, b := p.Waiting(), p.Waiting()
	a = a[:cap(a)]
	for i := range a {
		a[i] = 99
	}
	if !slices.Equal(b, []int{0, 2, 3}) {
		t.Errorf("another result became %v", b)
	}
	is(t, p, parked, running, parked, parked, running)
	park(t, p, 4, false, api.OK)
	unpark(t, p, 0, true, api.OK)
	p.Waiting()
	for _, x := range a {
		if x != 99 {
			t.Errorf("later calls changed what Waiting returned to %v", a)
		}
	}
}

// notMade is parkers that New did not return.
func notMade(t *testing.T) map[string]*parker.Parker {
	copied := *inStates(t, running, parked, ready)
	return map[string]*parker.Parker{"nil": nil, "the zero parker": {}, "a copy": &copied}
}

func TestInvalidParkers(t *testing.T) {
	for what, p := range notMade(t) {
		for _, i := range append([]int{0, 1, 2, 3, 7}, noThreads(3)...) {
			if runs, e := p.Park(i); runs || e != api.ErrNil {
				t.Errorf("%s: Park(%d) = %v, %d", what, i, runs, e)
			}
			if was, e := p.Unpark(i); was || e != api.ErrNil {
				t.Errorf("%s: Unpark(%d) = %v, %d", what, i, was, e)
			}
			if p.Parked(i) || p.Token(i) || p.Drop(i) {
				t.Errorf("%s: Parked, Token or Drop(%d)", what, i)
			}
		}
		if l := p.Waiting(); len(l) != 0 || p.Len() != 0 {
			t.Errorf("%s: Waiting() = %v, Len() = %d", what, l, p.Len())
		}
	}
}

func TestACopyLeavesTheParkerAsItIs(t *testing.T) {
	p := inStates(t, running, parked, ready)
	c := *p
	c.Park(0)
	c.Unpark(1)
	c.Drop(2)
	is(t, p, running, parked, ready)
}

// plain is threads as the chapter's words say them.
type plain []state

func (p plain) valid(thread int) bool { return thread >= 0 && thread < len(p) }

func (p plain) park(thread int) (bool, api.Errno) {
	if !p.valid(thread) {
		return false, api.ErrArg
	}
	switch p[thread] {
	case parked:
		return false, api.ErrTwice
	case ready:
		p[thread] = running
		return true, api.OK
	}
	p[thread] = parked
	return false, api.OK
}

func (p plain) unpark(thread int) (bool, api.Errno) {
	if !p.valid(thread) {
		return false, api.ErrArg
	}
	if p[thread] == parked {
		p[thread] = running
		return true, api.OK
	}
	p[thread] = ready
	return false, api.OK
}

func (p plain) drop(thread int) bool {
	if !p.valid(thread) || p[thread] != ready {
		return false
	}
	p[thread] = running
	return true
}

// calls is a call of each kind, with what the plain threads return for it.
func calls() []func(t *testing.T, p *parker.Parker, l plain, thread int) {
	return []func(t *testing.T, p *parker.Parker, l plain, thread int){
		func(t *testing.T, p *parker.Parker, l plain, thread int) {
			runs, e := l.park(thread)
			park(t, p, thread, runs, e)
		},
		func(t *testing.T, p *parker.Parker, l plain, thread int) {
			was, e := l.unpark(thread)
			unpark(t, p, thread, was, e)
		},
		func(t *testing.T, p *parker.Parker, l plain, thread int) {
			drop(t, p, thread, l.drop(thread))
		},
	}
}

// All calls, in a mixture that is the same in each run, against the plain threads.
func TestAgainstPlainThreads(t *testing.T) {
	for seed := range 80 {
		r := rand.New(rand.NewSource(int64(seed)))
		n := seed%most + 1
		p, l := newParker(t, n), plain(allRunning(n))
		for range 400 {
			calls()[r.Intn(3)](t, p, l, r.Intn(n+2)-1)
			is(t, p, l...)
			if t.Failed() {
				t.Fatalf("seed %d", seed)
			}
		}
	}
}

// each does something with parkers in each state that four threads can have.
func each(t *testing.T, do func(p *parker.Parker, want []state)) {
	for number := range 3 * 3 * 3 * 3 {
		want := []state{state(number % 3), state(number / 3 % 3), state(number / 9 % 3), state(number / 27)}
		do(inStates(t, want...), want)
	}
}

// Two calls of any kinds, from any state: what the first one leaves is what the second one finds.
func TestEachPairOfCalls(t *testing.T) {
	for _, first := range calls() {
		for _, second := range calls() {
			for i := range 4 {
				for k := range 4 {
					each(t, func(p *parker.Parker, want []state) {
						first(t, p, want, i)
						is(t, p, want...)
						second(t, p, want, k)
						is(t, p, want...)
					})
				}
			}
		}
	}
}

// The thread keeps running whether it was parked, had a token, or neither: for one that was parked, the wake-up is that it runs.
func TestP6_3NoWakeUpIsLost(t *testing.T) {
	for i := range 4 {
		each(t, func(p *parker.Parker, want []state) {
			was, e := p.Unpark(i)
			if e != api.OK || was != (want[i] == parked) {
				t.Errorf("from %v: Unpark(%d) = %v, %d", want, i, was, e)
			}
			if p.Parked(i) {
				t.Errorf("from %v: thread %d is parked after Unpark", want, i)
			}
			if !was {
				park(t, p, i, true, api.OK)
			}
			want[i] = running
			is(t, p, want...)
		})
	}
}

// What happens to other threads between the two does not count.
func TestP6_3OthersDoNotTakeTheWakeUp(t *testing.T) {
	for i := range most {
		p, want := newParker(t, most), allRunning(most)
		unpark(t, p, i, false, api.OK)
		for k := range most {
			if k != i {
				park(t, p, k, false, api.OK)
				unpark(t, p, k, true, api.OK)
				unpark(t, p, k, false, api.OK)
				drop(t, p, k, true)
			}
		}
		want[i] = ready
		is(t, p, want...)
		park(t, p, i, true, api.OK)
		is(t, p, allRunning(most)...)
	}
}

func TestP6_3AParkedThreadHasNoToken(t *testing.T) {
	for i := range 4 {
		each(t, func(p *parker.Parker, want []state) {
			p.Park(i)
			if p.Parked(i) && p.Token(i) {
				t.Errorf("from %v: thread %d is parked, and has a token", want, i)
			}
		})
	}
}

func TestExamples(t *testing.T) {
	p := newParker(t, 1)
	unpark(t, p, 0, false, api.OK)
	park(t, p, 0, true, api.OK)
	park(t, p, 0, false, api.OK)
	unpark(t, p, 0, true, api.OK)
}
