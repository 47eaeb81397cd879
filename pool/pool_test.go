package pool_test

import (
	"iter"
	"math"
	"math/rand"
	"slices"
	"testing"

	"latchstring/api"
	"latchstring/pool"
)

// The tests write the limit as the chapter says it.
const most = 128

func newPool(t *testing.T, n int) *pool.Pool {
	t.Helper()
	p, e := pool.New(n)
	if e != api.OK || p == nil {
		t.Fatalf("New(%d) = %v, %d", n, p, e)
	}
	return p
}

// take takes numbers, with what they must be.
func take(t *testing.T, p *pool.Pool, want ...int) {
	t.Helper()
	for _, id := range want {
		if got, e := p.Take(); got != id || e != api.OK {
			t.Errorf("Take() = %d, %d, want %d", got, e, id)
		}
	}
}

// full takes from a pool of which all numbers are lent.
func full(t *testing.T, p *pool.Pool) {
	t.Helper()
	if got, e := p.Take(); got != 0 || e != api.ErrFull {
		t.Errorf("Take() of a full pool = %d, %d", got, e)
	}
}

// give gives a number back, with what that must return.
func give(t *testing.T, p *pool.Pool, id int, err api.Errno) {
	t.Helper()
	if e := p.Give(id); e != err {
		t.Errorf("Give(%d) = %d, want %d", id, e, err)
	}
}

// holds holds all that a pool of n numbers tells against which of them must be lent, ascending.
func holds(t *testing.T, p *pool.Pool, n int, lent ...int) {
	t.Helper()
	if got := p.Most(); got != n {
		t.Errorf("Most() = %d, want %d", got, n)
	}
	if got := p.Live(); got != len(lent) {
		t.Errorf("Live() = %d, want %d", got, len(lent))
	}
	if got := slices.Collect(p.Each()); !slices.Equal(got, lent) {
		t.Errorf("Each() yields %v, want %v", got, lent)
	}
	for id := range n {
		if got := p.Has(id); got != slices.Contains(lent, id) {
			t.Errorf("Has(%d) = %v, of %v", id, got, lent)
		}
	}
	for _, id := range noNumbers(n) {
		if p.Has(id) {
			t.Errorf("Has(%d) = true, of a pool of %d", id, n)
		}
	}
}

// upTo is the numbers below n, ascending.
func upTo(n int) []int {
	l := []int{}
	for id := range n {
		l = append(l, id)
	}
	return l
}

// noNumbers is what a pool of n numbers does not have; some are its numbers when cut to 32, 16 or 8 bits.
func noNumbers(n int) []int {
	l := []int{-1, -2, -n, n, n + 1, 129, 256, 257, 1 << 16, 1<<16 + 1, 1 << 32, 1<<32 + 1, math.MaxInt32, math.MinInt32, math.MaxInt - 1, math.MaxInt, math.MinInt, math.MinInt + 1}
	return slices.DeleteFunc(l, func(id int) bool { return id >= 0 && id < n })
}

func TestP10_1New(t *testing.T) {
	for n := range most + 1 {
		p := newPool(t, n)
		holds(t, p, n)
		take(t, p, upTo(n)...)
		holds(t, p, n, upTo(n)...)
		full(t, p)
		full(t, p)
		holds(t, p, n, upTo(n)...)
	}
}

func TestP10_1NewOfOtherNumbers(t *testing.T) {
	for _, n := range []int{-1, -2, -127, -128, -129, 129, 130, 255, 256, 257, 1<<16 + 4, 1 << 32, 1<<32 + 4, math.MaxInt32, math.MinInt32, math.MaxInt - 1, math.MaxInt, math.MinInt, math.MinInt + 1, math.MinInt + 4} {
		if p, e := pool.New(n); p != nil || e != api.ErrArg {
			t.Errorf("New(%d) = %v, %d", n, p, e)
		}
	}
}

func TestP10_1APoolOfNoNumbers(t *testing.T) {
	p := newPool(t, 0)
	for range 3 {
		full(t, p)
		give(t, p, 0, api.ErrNone)
		give(t, p, -1, api.ErrNone)
		holds(t, p, 0)
	}
}

func TestP10_1PoolsAreApart(t *testing.T) {
	a, b := newPool(t, 2), newPool(t, 2)
	take(t, a, 0, 1)
	holds(t, b, 2)
	take(t, b, 0)
	give(t, b, 1, api.ErrNone)
	give(t, a, 0, api.OK)
	holds(t, a, 2, 1)
	holds(t, b, 2, 0)
}

// One number is given back and taken again, of each pool that is full.
func TestP10_1TakeOfTheOnlyFreeOne(t *testing.T) {
	for n := 1; n <= most; n++ {
		p := newPool(t, n)
		take(t, p, upTo(n)...)
		for _, id := range []int{0, n / 2, n - 1} {
			give(t, p, id, api.OK)
			holds(t, p, n, slices.DeleteFunc(upTo(n), func(x int) bool { return x == id })...)
			take(t, p, id)
			full(t, p)
		}
		holds(t, p, n, upTo(n)...)
	}
}

// orders does something with each order of the elements.
func orders(l []int, do func([]int)) {
	var fill func(at int)
	fill = func(at int) {
		if at == len(l) {
			do(slices.Clone(l))
			return
		}
		for i := at; i < len(l); i++ {
			l[at], l[i] = l[i], l[at]
			fill(at + 1)
			l[at], l[i] = l[i], l[at]
		}
	}
	fill(0)
}

// In whatever order numbers were given back, and however many of them, the smallest comes first.
func TestP10_1TakeAfterAllOrdersOfGiving(t *testing.T) {
	const n = 6
	orders(upTo(n), func(order []int) {
		for given := range n + 1 {
			p := newPool(t, n)
			take(t, p, upTo(n)...)
			for _, id := range order[:given] {
				give(t, p, id, api.OK)
			}
			take(t, p, slices.Sorted(slices.Values(order[:given]))...)
			full(t, p)
		}
	})
}

func TestP10_1TakeAfterGivingManyBack(t *testing.T) {
	r := rand.New(rand.NewSource(10))
	for range 100 {
		p := newPool(t, most)
		take(t, p, upTo(most)...)
		given := r.Perm(most)[:r.Intn(most+1)]
		for _, id := range given {
			give(t, p, id, api.OK)
		}
		slices.Sort(given)
		take(t, p, given...)
		full(t, p)
		holds(t, p, most, upTo(most)...)
	}
}

// A number that was given back comes before those that were never lent.
func TestP10_1TakeOfOneThatWasLentBefore(t *testing.T) {
	p := newPool(t, 5)
	take(t, p, 0, 1, 2)
	give(t, p, 2, api.OK)
	give(t, p, 0, api.OK)
	take(t, p, 0, 2, 3)
	give(t, p, 1, api.OK)
	take(t, p, 1, 4)
	full(t, p)
}

func TestP10_1GiveOfOneThatIsNotLent(t *testing.T) {
	p := newPool(t, 4)
	for id := range 4 {
		give(t, p, id, api.ErrNone)
	}
	holds(t, p, 4)
	take(t, p, 0, 1)
	give(t, p, 2, api.ErrNone)
	give(t, p, 3, api.ErrNone)
	holds(t, p, 4, 0, 1)
	give(t, p, 0, api.OK)
	give(t, p, 0, api.ErrNone)
	give(t, p, 0, api.ErrNone)
	holds(t, p, 4, 1)
	// What was given back twice is free once.
	take(t, p, 0, 2, 3)
	full(t, p)
}

func TestP10_1GiveOfOtherNumbers(t *testing.T) {
	for n := range most + 1 {
		p := newPool(t, n)
		for _, id := range noNumbers(n) {
			give(t, p, id, api.ErrNone)
		}
		take(t, p, upTo(n)...)
		for _, id := range noNumbers(n) {
			give(t, p, id, api.ErrNone)
		}
		full(t, p)
		holds(t, p, n, upTo(n)...)
	}
}

// firstOf is the first n of what is yielded; the iteration is left when one more comes.
func firstOf(each iter.Seq[int], n int) []int {
	var l []int
	for id := range each {
		if len(l) == n {
			break
		}
		l = append(l, id)
	}
	return l
}

// scattered is a pool of eight numbers, of which 1, 3, 4 and 7 are lent.
func scattered(t *testing.T) *pool.Pool {
	t.Helper()
	p := newPool(t, 8)
	take(t, p, upTo(8)...)
	for _, id := range []int{6, 0, 5, 2} {
		give(t, p, id, api.OK)
	}
	return p
}

func scatteredLent() []int { return []int{1, 3, 4, 7} }

func TestP10_2EachIsLeftEarlyAndUsedAgain(t *testing.T) {
	p := scattered(t)
	each := p.Each()
	for n := range len(scatteredLent()) + 2 {
		want := scatteredLent()[:min(n, len(scatteredLent()))]
		if got := firstOf(each, n); !slices.Equal(got, want) {
			t.Errorf("the first %d are %v", n, got)
		}
		holds(t, p, 8, scatteredLent()...)
	}
	for range 2 {
		if got := slices.Collect(each); !slices.Equal(got, scatteredLent()) {
			t.Errorf("Each() used again yields %v", got)
		}
	}
}

// An iterator tells what is lent when an iteration begins, not when it was returned.
func TestP10_2EachOfWhatIsLentAtTheBeginning(t *testing.T) {
	p := newPool(t, 3)
	each := p.Each()
	take(t, p, 0, 1)
	if got := slices.Collect(each); !slices.Equal(got, []int{0, 1}) {
		t.Errorf("Each() yields %v", got)
	}
	give(t, p, 0, api.OK)
	if got := slices.Collect(each); !slices.Equal(got, []int{1}) {
		t.Errorf("Each() yields %v", got)
	}
	give(t, p, 1, api.OK)
	if got := slices.Collect(each); len(got) != 0 {
		t.Errorf("Each() yields %v", got)
	}
}

// What is done to the pool within an iteration does not change what this one yields.
func TestP10_2EachWhileThePoolChanges(t *testing.T) {
	for what, change := range map[string]func(p *pool.Pool, i int){
		"Give of the yielded": func(p *pool.Pool, i int) { p.Give(scatteredLent()[i]) },
		"Give of the last":    func(p *pool.Pool, i int) { p.Give(scatteredLent()[3-i]) },
		"Give of all": func(p *pool.Pool, i int) {
			for id := range 8 {
				p.Give(id)
			}
		},
		"Take": func(p *pool.Pool, i int) { p.Take() },
		"Take of all": func(p *pool.Pool, i int) {
			for range 8 {
				p.Take()
			}
		},
		"Give of the last and Take": func(p *pool.Pool, i int) { p.Give(7); p.Take(); p.Take() },
		"Each":                      func(p *pool.Pool, i int) { firstOf(p.Each(), 2) },
	} {
		p := scattered(t)
		var got []int
		for id := range p.Each() {
			if len(got) == len(scatteredLent()) {
				t.Fatalf("%s within Each: it goes on to %d", what, id)
			}
			change(p, len(got))
			got = append(got, id)
		}
		if !slices.Equal(got, scatteredLent()) {
			t.Errorf("%s within Each: it yields %v", what, got)
		}
	}
}

func TestP10_2GiveOfAllWithinEach(t *testing.T) {
	p := scattered(t)
	for id := range p.Each() {
		give(t, p, id, api.OK)
	}
	holds(t, p, 8)
	take(t, p, upTo(8)...)
	full(t, p)
}

// What is done to the pool stays done when the iteration is left.
func TestP10_2EachIsLeftWhileThePoolChanges(t *testing.T) {
	p := scattered(t)
	for id := range p.Each() {
		if id == 4 {
			break
		}
		give(t, p, id, api.OK)
	}
	holds(t, p, 8, 4, 7)
	for range p.Each() {
		take(t, p, 0)
		break
	}
	holds(t, p, 8, 0, 4, 7)
}

// Two iterations of one iterator, one within the other, do not disturb each other.
func TestP10_2EachWithinEach(t *testing.T) {
	p := scattered(t)
	each := p.Each()
	var got []int
	for a := range each {
		for b := range each {
			got = append(got, a*10+b)
		}
	}
	if want := []int{11, 13, 14, 17, 31, 33, 34, 37, 41, 43, 44, 47, 71, 73, 74, 77}; !slices.Equal(got, want) {
		t.Errorf("they yield %v", got)
	}
}

// notMade is pools that New did not return.
func notMade(t *testing.T) map[string]*pool.Pool {
	copied := *scattered(t)
	return map[string]*pool.Pool{"nil": nil, "the zero pool": {}, "a copy": &copied}
}

func TestInvalidPool(t *testing.T) {
	for what, p := range notMade(t) {
		for range 3 {
			if id, e := p.Take(); id != 0 || e != api.ErrNil {
				t.Errorf("%s: Take() = %d, %d", what, id, e)
			}
		}
		for _, id := range append(upTo(9), noNumbers(8)...) {
			if e := p.Give(id); e != api.ErrNil {
				t.Errorf("%s: Give(%d) = %d", what, id, e)
			}
		}
		if p.Each() == nil {
			t.Fatalf("%s: Each() = nil", what)
		}
		holds(t, p, 0)
	}
}

func TestACopyLeavesThePoolAsItIs(t *testing.T) {
	p := scattered(t)
	c := *p
	c.Take()
	c.Give(4)
	holds(t, p, 8, scatteredLent()...)
	take(t, p, 0, 2, 5, 6)
	full(t, p)
}

// plain is a pool as the chapter's words say it: how many numbers there are, and a set of those that are lent.
type plain struct {
	n    int
	lent map[int]bool
}

func (p *plain) take() (int, api.Errno) {
	for id := range p.n {
		if !p.lent[id] {
			p.lent[id] = true
			return id, api.OK
		}
	}
	return 0, api.ErrFull
}

func (p *plain) give(id int) api.Errno {
	if !p.lent[id] {
		return api.ErrNone
	}
	delete(p.lent, id)
	return api.OK
}

func (p *plain) all() []int {
	var l []int
	for id := range p.n {
		if p.lent[id] {
			l = append(l, id)
		}
	}
	return l
}

// takeAsPlain takes from both, which must return the same.
func takeAsPlain(t *testing.T, p *pool.Pool, q *plain) {
	t.Helper()
	if id, e := q.take(); e == api.OK {
		take(t, p, id)
	} else {
		full(t, p)
	}
}

// All sequences of calls up to a length, for pools of up to three numbers.
func TestShortSequencesAgainstThePlainPool(t *testing.T) {
	const length = 6
	for n := range 4 {
		calls := n + 3 // Take, and Give of the numbers from -1 to n
		sequences := 1
		for range length {
			sequences *= calls
		}
		for s := range sequences {
			p, q := newPool(t, n), &plain{n: n, lent: map[int]bool{}}
			for rest, left := s, length; left > 0; rest, left = rest/calls, left-1 {
				if call := rest % calls; call == 0 {
					takeAsPlain(t, p, q)
				} else {
					give(t, p, call-2, q.give(call-2))
				}
			}
			holds(t, p, n, q.all()...)
			if t.Failed() {
				t.Fatalf("%d numbers, sequence %d", n, s)
			}
		}
	}
}

// All calls, in a mixture that is the same in each run, against the plain pool.
func TestAgainstThePlainPool(t *testing.T) {
	for seed := range 80 {
		r := rand.New(rand.NewSource(int64(seed)))
		n := r.Intn(most + 1)
		p, q := newPool(t, n), &plain{n: n, lent: map[int]bool{}}
		for i := range 400 {
			// Longer runs of taking and of giving back lead to full pools and to empty ones.
			if r.Intn(10) < 2+6*(i/100%2) {
				id := r.Intn(n+2) - 1
				if l := q.all(); len(l) > 0 && r.Intn(3) > 0 {
					id = l[r.Intn(len(l))]
				}
				give(t, p, id, q.give(id))
			} else {
				takeAsPlain(t, p, q)
			}
			holds(t, p, n, q.all()...)
			if t.Failed() {
				t.Fatalf("seed %d", seed)
			}
		}
	}
}

// Who has borrowed a number has it alone, and it is below the most that were ever lent at the same time.
func TestP10_3NumbersAreLentOnceAndStaySmall(t *testing.T) {
	for seed := range 60 {
		r := rand.New(rand.NewSource(int64(seed)))
		n := r.Intn(most) + 1
		p := newPool(t, n)
		var borrowed []int
		peak := 0
		for range 600 {
			if len(borrowed) > 0 && r.Intn(9) < 4 {
				i := r.Intn(len(borrowed))
				give(t, p, borrowed[i], api.OK)
				borrowed = slices.Delete(borrowed, i, i+1)
			} else if id, e := p.Take(); e == api.OK {
				if slices.Contains(borrowed, id) {
					t.Fatalf("seed %d: %d is lent twice", seed, id)
				}
				borrowed = append(borrowed, id)
				peak = max(peak, len(borrowed))
				if id < 0 || id >= peak {
					t.Fatalf("seed %d: %d is lent, but never more than %d at the same time", seed, id, peak)
				}
			} else if len(borrowed) < n {
				t.Fatalf("seed %d: Take() = %d, %d, but only %d of %d are lent", seed, id, e, len(borrowed), n)
			}
			if p.Live() != len(borrowed) {
				t.Fatalf("seed %d: Live() = %d, want %d", seed, p.Live(), len(borrowed))
			}
		}
	}
}

func TestExamples(t *testing.T) {
	p := newPool(t, 2)
	take(t, p, 0, 1)
	give(t, p, 0, api.OK)
	take(t, p, 0)
}
