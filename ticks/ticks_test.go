package ticks_test

import (
	"cmp"
	"iter"
	"math"
	"math/rand"
	"slices"
	"testing"

	"latchstring/api"
	"latchstring/ticks"
)

func timer(at int64, who, mark int) api.Timer { return api.Timer{At: at, Who: who, Mark: mark} }

// set sets timers that can be set.
func set(t *testing.T, c *ticks.Clock, l ...api.Timer) {
	t.Helper()
	for _, x := range l {
		if e := c.Set(x.At, x.Who, x.Mark); e != api.OK {
			t.Fatalf("Set(%v) = %d", x, e)
		}
	}
}

// pass lets ticks pass, with what that must return.
func pass(t *testing.T, c *ticks.Clock, n int, want ...api.Timer) {
	t.Helper()
	if got, e := c.Pass(n); e != api.OK || !slices.Equal(got, want) {
		t.Errorf("Pass(%d) = %v, %d, want %v", n, got, e, want)
	}
}

// holds holds all that a clock tells against what it must be; the timers are in order.
func holds(t *testing.T, c *ticks.Clock, now int64, want ...api.Timer) {
	t.Helper()
	if got := c.Now(); got != now {
		t.Errorf("Now() = %d, want %d", got, now)
	}
	if got := c.Len(); got != len(want) {
		t.Errorf("Len() = %d, want %d", got, len(want))
	}
	if got := slices.Collect(c.Each()); !slices.Equal(got, want) {
		t.Errorf("Each() yields %v, want %v", got, want)
	}
	first, is := c.Next()
	if is != (len(want) > 0) {
		t.Errorf("Next() = %v, %v, of %v", first, is, want)
	} else if is && first != want[0] || !is && first != (api.Timer{}) {
		t.Errorf("Next() = %v, %v, of %v", first, is, want)
	}
}

// inOrder is a way to order timers that is not the program's.
func inOrder(l []api.Timer) []api.Timer {
	l = slices.Clone(l)
	slices.SortFunc(l, func(a, b api.Timer) int {
		if a.At != b.At {
			return cmp.Compare(a.At, b.At)
		}
		if a.Who != b.Who {
			return cmp.Compare(a.Who, b.Who)
		}
		return cmp.Compare(a.Mark, b.Mark)
	})
	return l
}

// mixed is timers among which each part of the order counts, none in the place that it has in order.
func mixed() []api.Timer {
	return []api.Timer{
		timer(5, 1, 2), timer(5, 1, 1), timer(3, 9, 9), timer(5, 0, 7), timer(4, -1, 0), timer(5, 1, -3),
		timer(3, 2, 0), timer(7, 0, 0), timer(3, 9, 8), timer(1, 5, 5), timer(7, -2, 6), timer(2, 5, 4),
	}
}

func mixedInOrder() []api.Timer {
	return []api.Timer{
		timer(1, 5, 5), timer(2, 5, 4), timer(3, 2, 0), timer(3, 9, 8), timer(3, 9, 9), timer(4, -1, 0),
		timer(5, 0, 7), timer(5, 1, -3), timer(5, 1, 1), timer(5, 1, 2), timer(7, -2, 6), timer(7, 0, 0),
	}
}

// extremes is numbers at the ends of int and of smaller kinds.
func extremes() []int {
	return []int{math.MinInt, math.MinInt + 1, math.MinInt32, -1, 0, 1, math.MaxInt32, math.MaxInt - 1, math.MaxInt}
}

func TestP4_1New(t *testing.T) {
	c := ticks.New()
	if c == nil {
		t.Fatal("New() = nil")
	}
	holds(t, c, 0)
	pass(t, c, 0)
	holds(t, c, 0)
}

func TestP4_1ClocksAreApart(t *testing.T) {
	a, b := ticks.New(), ticks.New()
	set(t, a, timer(2, 1, 1))
	holds(t, b, 0)
	set(t, b, timer(1, 1, 1))
	pass(t, b, 1, timer(1, 1, 1))
	holds(t, a, 0, timer(2, 1, 1))
	holds(t, b, 1)
}

func TestP4_1SetAtTimesThatAreNotToCome(t *testing.T) {
	c := ticks.New()
	for _, now := range []int64{0, 7, 1007} {
		for _, at := range []int64{now, now - 1, 0, -1, math.MinInt32, math.MinInt64, math.MinInt64 + 1} {
			if e := c.Set(at, 1, 1); e != api.ErrArg {
				t.Errorf("Set(%d, 1, 1) at %d = %d", at, now, e)
			}
		}
		holds(t, c, now)
		set(t, c, timer(now+1, 1, 1))
		holds(t, c, now, timer(now+1, 1, 1))
		if !c.Drop(1, 1) {
			t.Error("Drop(1, 1) = false")
		}
		if now == 0 {
			pass(t, c, 7)
		} else {
			pass(t, c, 1000)
		}
	}
}

func TestP4_1SetTwice(t *testing.T) {
	c := ticks.New()
	set(t, c, timer(5, 1, 2))
	for _, at := range []int64{1, 4, 5, 6, math.MaxInt64} {
		if e := c.Set(at, 1, 2); e != api.ErrTwice {
			t.Errorf("Set(%d, 1, 2) = %d", at, e)
		}
		holds(t, c, 0, timer(5, 1, 2))
	}
	// The mark of another owner, and another mark of the owner, are not the same.
	set(t, c, timer(5, 1, 3), timer(5, 2, 2), timer(5, 2, 1))
	holds(t, c, 0, timer(5, 1, 2), timer(5, 1, 3), timer(5, 2, 1), timer(5, 2, 2))
}

// Every timer that is set is found, wherever it is kept.
func TestP4_1SetTwiceAmongMany(t *testing.T) {
	c := ticks.New()
	set(t, c, mixed()...)
	for _, x := range mixed() {
		if e := c.Set(9, x.Who, x.Mark); e != api.ErrTwice {
			t.Errorf("Set(9, %d, %d) = %d", x.Who, x.Mark, e)
		}
	}
	holds(t, c, 0, mixedInOrder()...)
}

func TestP4_1ErrArgComesBeforeErrTwice(t *testing.T) {
	c := ticks.New()
	set(t, c, timer(5, 1, 2))
	pass(t, c, 3)
	for _, at := range []int64{3, 0, -1, math.MinInt64} {
		if e := c.Set(at, 1, 2); e != api.ErrArg {
			t.Errorf("Set(%d, 1, 2) = %d", at, e)
		}
	}
	holds(t, c, 3, timer(5, 1, 2))
}

func TestP4_1SetAgain(t *testing.T) {
	c := ticks.New()
	set(t, c, timer(5, 1, 2))
	if !c.Drop(1, 2) {
		t.Error("Drop(1, 2) = false")
	}
	set(t, c, timer(4, 1, 2))
	pass(t, c, 4, timer(4, 1, 2))
	set(t, c, timer(5, 1, 2))
	pass(t, c, 1, timer(5, 1, 2))
	holds(t, c, 5)
}

func TestP4_1AnyOwnerAndMark(t *testing.T) {
	c := ticks.New()
	var l []api.Timer
	for _, who := range extremes() {
		for _, mark := range extremes() {
			x := timer(math.MaxInt64, who, mark)
			set(t, c, x)
			l = append(l, x)
		}
	}
	holds(t, c, 0, l...)
	for i, x := range l {
		if e := c.Set(1, x.Who, x.Mark); e != api.ErrTwice {
			t.Errorf("Set(1, %d, %d) = %d", x.Who, x.Mark, e)
		}
		if !c.Drop(x.Who, x.Mark) || c.Drop(x.Who, x.Mark) {
			t.Errorf("Drop(%d, %d)", x.Who, x.Mark)
		}
		holds(t, c, 0, l[i+1:]...)
	}
}

func TestP4_1Drop(t *testing.T) {
	for i, x := range mixedInOrder() {
		c := ticks.New()
		set(t, c, mixed()...)
		if !c.Drop(x.Who, x.Mark) {
			t.Errorf("Drop(%d, %d) = false", x.Who, x.Mark)
		}
		left := slices.Delete(mixedInOrder(), i, i+1)
		holds(t, c, 0, left...)
		if c.Drop(x.Who, x.Mark) {
			t.Errorf("Drop(%d, %d) a second time = true", x.Who, x.Mark)
		}
		pass(t, c, 1000, left...)
		holds(t, c, 1000)
	}
}

func TestP4_1DropOfNone(t *testing.T) {
	c := ticks.New()
	if c.Drop(0, 0) {
		t.Error("Drop(0, 0) of a new clock = true")
	}
	set(t, c, mixed()...)
	for _, p := range [][2]int{{0, 1}, {1, 0}, {2, 1}, {9, 0}, {5, 3}, {3, 3}, {math.MinInt, math.MaxInt}} {
		if c.Drop(p[0], p[1]) {
			t.Errorf("Drop(%d, %d) = true", p[0], p[1])
		}
	}
	holds(t, c, 0, mixedInOrder()...)
	pass(t, c, 1, timer(1, 5, 5))
	if c.Drop(5, 5) {
		t.Error("Drop of a timer that was returned = true")
	}
}

func TestP4_2PassOfOtherNumbers(t *testing.T) {
	c := ticks.New()
	set(t, c, timer(1, 1, 1))
	for _, n := range []int{-1, -2, -1000, 1001, 1002, 1 << 16, math.MaxInt32, math.MinInt32, math.MaxInt, math.MinInt, math.MinInt + 1} {
		if l, e := c.Pass(n); e != api.ErrArg || len(l) != 0 {
			t.Errorf("Pass(%d) = %v, %d", n, l, e)
		}
		holds(t, c, 0, timer(1, 1, 1))
	}
}

func TestP4_2PassAtTheLimits(t *testing.T) {
	c := ticks.New()
	set(t, c, timer(1000, 1, 1), timer(1001, 1, 2), timer(2001, 1, 3))
	pass(t, c, 0)
	holds(t, c, 0, timer(1000, 1, 1), timer(1001, 1, 2), timer(2001, 1, 3))
	pass(t, c, 1000, timer(1000, 1, 1))
	holds(t, c, 1000, timer(1001, 1, 2), timer(2001, 1, 3))
	pass(t, c, 999, timer(1001, 1, 2))
	holds(t, c, 1999, timer(2001, 1, 3))
	pass(t, c, 1)
	pass(t, c, 1, timer(2001, 1, 3))
	holds(t, c, 2001)
}

func TestP4_2PassReachesSeveral(t *testing.T) {
	c := ticks.New()
	set(t, c, mixed()...)
	l := mixedInOrder()
	pass(t, c, 2, l[:2]...)
	holds(t, c, 2, l[2:]...)
	pass(t, c, 0)
	pass(t, c, 1, l[2:5]...)
	pass(t, c, 2, l[5:10]...)
	holds(t, c, 5, l[10:]...)
	pass(t, c, 1)
	pass(t, c, 1, l[10:]...)
	holds(t, c, 7)
	pass(t, c, 1000)
	holds(t, c, 1007)
}

// Timers that one Pass reaches at once are in order, however they were set.
func TestP4_2PassOfTwoAtOnce(t *testing.T) {
	for _, l := range [][2]api.Timer{
		{timer(3, 1, 0), timer(4, 0, 0)},
		{timer(3, 0, 5), timer(3, 1, 0)},
		{timer(3, 1, 0), timer(3, 1, 1)},
		{timer(3, -1, 0), timer(3, 0, -1)},
		{timer(3, math.MinInt, 0), timer(3, math.MaxInt, 0)},
		{timer(3, 0, math.MinInt), timer(3, 0, math.MaxInt)},
	} {
		for _, way := range [][2]api.Timer{l, {l[1], l[0]}} {
			c := ticks.New()
			set(t, c, way[:]...)
			holds(t, c, 0, l[:]...)
			pass(t, c, 4, l[:]...)
			holds(t, c, 4)
		}
	}
}

// The order of the calls that set timers does not count.
func TestP4_2OrderInAllWaysToSet(t *testing.T) {
	l := mixedInOrder()[2:9]
	want := slices.Clone(l)
	var permute func(k int)
	permute = func(k int) {
		if k == len(l) {
			c := ticks.New()
			set(t, c, l...)
			holds(t, c, 0, want...)
			pass(t, c, 1000, want...)
			return
		}
		for i := k; i < len(l); i++ {
			l[k], l[i] = l[i], l[k]
			permute(k + 1)
			l[k], l[i] = l[i], l[k]
		}
	}
	permute(0)
}

func TestP4_2FarTimes(t *testing.T) {
	c := ticks.New()
	l := []api.Timer{timer(1<<31, 3, 0), timer(1<<32, 2, 0), timer(1<<32+1, 1, 0), timer(math.MaxInt64-1, 5, 0), timer(math.MaxInt64, 4, 0)}
	set(t, c, l[3], l[1], l[4], l[0], l[2])
	holds(t, c, 0, l...)
	pass(t, c, 1000)
	holds(t, c, 1000, l...)
}

func TestP4_2PassIsNewMemory(t *testing.T) {
	c := ticks.New()
	set(t, c, mixed()...)
	got, _ := c.Pass(3)
	got = got[:cap(got)]
	for i := range got {
		got[i] = timer(-1, -1, -1)
	}
	holds(t, c, 3, mixedInOrder()[5:]...)
	set(t, c, timer(9, 9, 9), timer(10, 9, 10))
	for _, x := range got {
		if x != timer(-1, -1, -1) {
			t.Errorf("Set changed what Pass returned to %v", x)
		}
	}
	pass(t, c, 1000, append(mixedInOrder()[5:], timer(9, 9, 9), timer(10, 9, 10))...)
}

func TestP4_2NextRemovesNothing(t *testing.T) {
	c := ticks.New()
	set(t, c, mixed()...)
	for range 3 {
		holds(t, c, 0, mixedInOrder()...)
	}
	if !c.Drop(5, 5) {
		t.Error("Drop(5, 5) = false")
	}
	if x, is := c.Next(); !is || x != timer(2, 5, 4) {
		t.Errorf("Next() = %v, %v", x, is)
	}
}

// Owner 0 and mark 0 are ones as all others: a timer that has them is one.
func TestP4_2NextOfOwnerAndMarkZero(t *testing.T) {
	c := ticks.New()
	set(t, c, timer(1, 0, 0))
	if x, is := c.Next(); !is || x != timer(1, 0, 0) {
		t.Errorf("Next() = %v, %v", x, is)
	}
	pass(t, c, 1, timer(1, 0, 0))
	if x, is := c.Next(); is || x != (api.Timer{}) {
		t.Errorf("Next() = %v, %v", x, is)
	}
}

// firstOf leaves an iteration after n timers.
func firstOf(each iter.Seq[api.Timer], n int) []api.Timer {
	var l []api.Timer
	for x := range each {
		if len(l) == n {
			break
		}
		l = append(l, x)
	}
	return l
}

func TestP4_2EachIsLeftEarlyAndUsedAgain(t *testing.T) {
	c := ticks.New()
	set(t, c, mixed()...)
	each := c.Each()
	for n := range len(mixed()) + 2 {
		want := mixedInOrder()[:min(n, len(mixed()))]
		if got := firstOf(each, n); !slices.Equal(got, want) {
			t.Errorf("the first %d are %v", n, got)
		}
		holds(t, c, 0, mixedInOrder()...)
	}
	for range 2 {
		if got := slices.Collect(each); !slices.Equal(got, mixedInOrder()) {
			t.Errorf("Each() used again yields %v", got)
		}
	}
}

// An iterator tells what there is when an iteration begins, not when it was returned.
func TestP4_2EachOfWhatIsThereAtTheBeginning(t *testing.T) {
	c := ticks.New()
	each := c.Each()
	set(t, c, timer(2, 1, 1))
	if got := slices.Collect(each); !slices.Equal(got, []api.Timer{timer(2, 1, 1)}) {
		t.Errorf("Each() yields %v", got)
	}
	set(t, c, timer(1, 2, 2))
	if got := slices.Collect(each); !slices.Equal(got, []api.Timer{timer(1, 2, 2), timer(2, 1, 1)}) {
		t.Errorf("Each() yields %v", got)
	}
	pass(t, c, 2, timer(1, 2, 2), timer(2, 1, 1))
	if got := slices.Collect(each); len(got) != 0 {
		t.Errorf("Each() yields %v", got)
	}
}

// What is done to the clock within an iteration does not change what this one yields.
func TestP4_2EachWhileTheClockChanges(t *testing.T) {
	for what, change := range map[string]func(c *ticks.Clock, i int){
		"Drop of the yielded": func(c *ticks.Clock, i int) { c.Drop(mixedInOrder()[i].Who, mixedInOrder()[i].Mark) },
		"Drop of the last":    func(c *ticks.Clock, i int) { l := mixedInOrder(); x := l[len(l)-1-i]; c.Drop(x.Who, x.Mark) },
		"Set before":          func(c *ticks.Clock, i int) { c.Set(1, -9, i) },
		"Set behind":          func(c *ticks.Clock, i int) { c.Set(99, 99, i) },
		"Pass":                func(c *ticks.Clock, i int) { c.Pass(1) },
		"Pass of all":         func(c *ticks.Clock, i int) { c.Pass(1000) },
		"Each":                func(c *ticks.Clock, i int) { firstOf(c.Each(), 2) },
	} {
		c := ticks.New()
		set(t, c, mixed()...)
		var got []api.Timer
		for x := range c.Each() {
			change(c, len(got))
			got = append(got, x)
		}
		if !slices.Equal(got, mixedInOrder()) {
			t.Errorf("%s within Each: it yields %v", what, got)
		}
	}
}

func TestP4_2DropOfAllWithinEach(t *testing.T) {
	c := ticks.New()
	set(t, c, mixed()...)
	for x := range c.Each() {
		if !c.Drop(x.Who, x.Mark) {
			t.Errorf("Drop(%d, %d) = false", x.Who, x.Mark)
		}
	}
	holds(t, c, 0)
}

// notMade is clocks that New did not return.
func notMade(t *testing.T) map[string]*ticks.Clock {
	made := ticks.New()
	set(t, made, timer(2, 1, 1), timer(3, 1, 2))
	pass(t, made, 1)
	copied := *made
	return map[string]*ticks.Clock{"nil": nil, "the zero clock": {}, "a copy": &copied}
}

func TestInvalidClock(t *testing.T) {
	for what, c := range notMade(t) {
		for _, at := range []int64{-1, 0, 1, 2, 9, math.MaxInt64, math.MinInt64} {
			for _, mark := range []int{0, 1, 2, 3} {
				if e := c.Set(at, 1, mark); e != api.ErrNil {
					t.Errorf("%s: Set(%d, 1, %d) = %d", what, at, mark, e)
				}
			}
		}
		for _, mark := range []int{0, 1, 2, 3} {
			if c.Drop(1, mark) {
				t.Errorf("%s: Drop(1, %d) = true", what, mark)
			}
		}
		for _, n := range []int{0, 1, 3, 1000, -1, 1001, math.MaxInt, math.MinInt} {
			if l, e := c.Pass(n); e != api.ErrNil || len(l) != 0 {
				t.Errorf("%s: Pass(%d) = %v, %d", what, n, l, e)
			}
		}
		if c.Each() == nil {
			t.Fatalf("%s: Each() = nil", what)
		}
		holds(t, c, 0)
	}
}

func TestACopyLeavesTheClockAsItIs(t *testing.T) {
	c := ticks.New()
	set(t, c, mixed()...)
	d := *c
	d.Set(1, 50, 50)
	d.Drop(5, 5)
	d.Pass(1000)
	holds(t, c, 0, mixedInOrder()...)
}

// plain is a clock as the chapter's words say it: a list of timers that is looked through.
type plain struct {
	now int64
	l   []api.Timer
}

func (p *plain) find(who, mark int) int {
	for i, x := range p.l {
		if x.Who == who && x.Mark == mark {
			return i
		}
	}
	return -1
}

func (p *plain) set(x api.Timer) api.Errno {
	if x.At <= p.now {
		return api.ErrArg
	}
	if p.find(x.Who, x.Mark) >= 0 {
		return api.ErrTwice
	}
	p.l = append(p.l, x)
	return api.OK
}

func (p *plain) drop(who, mark int) bool {
	i := p.find(who, mark)
	if i >= 0 {
		p.l = slices.Delete(p.l, i, i+1)
	}
	return i >= 0
}

func (p *plain) pass(n int) []api.Timer {
	p.now += int64(n)
	var due, left []api.Timer
	for _, x := range p.l {
		if x.At <= p.now {
			due = append(due, x)
		} else {
			left = append(left, x)
		}
	}
	p.l = left
	return inOrder(due)
}

// All calls, in a mixture that is the same in each run, against the plain clock.
func TestAgainstThePlainClock(t *testing.T) {
	for seed := range 60 {
		r := rand.New(rand.NewSource(int64(seed)))
		c, p := ticks.New(), &plain{}
		for range 400 {
			who, mark := r.Intn(5)-1, r.Intn(6)-1
			switch r.Intn(10) {
			case 0, 1, 2, 3, 4, 5:
				x := timer(p.now+int64(r.Intn(30)-2), who, mark)
				if got, want := c.Set(x.At, who, mark), p.set(x); got != want {
					t.Fatalf("seed %d: Set(%v) at %d = %d, want %d", seed, x, p.now, got, want)
				}
			case 6, 7:
				if got, want := c.Drop(who, mark), p.drop(who, mark); got != want {
					t.Fatalf("seed %d: Drop(%d, %d) = %v, want %v", seed, who, mark, got, want)
				}
			case 8:
				n := r.Intn(6)
				pass(t, c, n, p.pass(n)...)
			case 9:
				firstOf(c.Each(), r.Intn(4))
			}
			holds(t, c, p.now, inOrder(p.l)...)
			if t.Failed() {
				t.Fatalf("seed %d", seed)
			}
		}
	}
}

// Each timer is returned once, by the first Pass that reaches its time; one that is dropped before, by none.
func TestP4_3EachTimerIsReturnedOnce(t *testing.T) {
	r := rand.New(rand.NewSource(7))
	c := ticks.New()
	times := map[int]int64{} // by mark; no mark is used twice
	returned := map[int]bool{}
	dropped := map[int]bool{}
	mark := 0
	for range 500 {
		before := c.Now()
		for range r.Intn(4) {
			at := before + 1 + int64(r.Intn(40))
			set(t, c, timer(at, r.Intn(3), mark))
			times[mark] = at
			mark++
		}
		if x, is := c.Next(); is && r.Intn(5) == 0 {
			c.Drop(x.Who, x.Mark)
			dropped[x.Mark] = true
		}
		l, _ := c.Pass(r.Intn(8))
		for _, x := range l {
			if returned[x.Mark] || dropped[x.Mark] || times[x.Mark] != x.At || x.At <= before || x.At > c.Now() {
				t.Fatalf("the Pass from %d to %d returned %v", before, c.Now(), x)
			}
			returned[x.Mark] = true
		}
		for m, at := range times {
			if at <= c.Now() && !returned[m] && !dropped[m] {
				t.Fatalf("no Pass to %d returned the timer %d of %d", c.Now(), m, at)
			}
		}
	}
	if len(returned) == 0 || len(dropped) == 0 || len(returned)+len(dropped)+c.Len() != mark {
		t.Errorf("%d set, %d returned, %d dropped, %d left", mark, len(returned), len(dropped), c.Len())
	}
}

// However the ticks to a time are divided, the same timers are returned in the same order.
func TestP4_3TicksInPieces(t *testing.T) {
	for _, piece := range []int{1, 2, 3, 4, 5, 6, 7, 8, 1000} {
		c := ticks.New()
		set(t, c, mixed()...)
		var got []api.Timer
		for c.Now() < 8 {
			l, e := c.Pass(piece)
			if e != api.OK {
				t.Fatalf("Pass(%d) = %d", piece, e)
			}
			got = append(got, l...)
		}
		if !slices.Equal(got, mixedInOrder()) {
			t.Errorf("in pieces of %d: %v", piece, got)
		}
	}
}

func TestExamples(t *testing.T) {
	c := ticks.New()
	set(t, c, timer(3, 1, 0), timer(2, 2, 0))
	pass(t, c, 2, timer(2, 2, 0))
	pass(t, c, 1, timer(3, 1, 0))
}
