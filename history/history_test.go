package history_test

import (
	"math"
	"math/rand"
	"slices"
	"testing"

	"latchstring/api"
	"latchstring/history"
)

// The tests write names as they are.
func db() api.Name { return api.Name{Table: -1, Record: -1} }

func tab(t int) api.Name { return api.Name{Table: t, Record: -1} }

func rec(t, r int) api.Name { return api.Name{Table: t, Record: r} }

// begin is the beginning of a call; what it does differs from call to call.
func begin(thread, call int) api.Event {
	act := api.Act{Kind: 1 + (call+thread)&3, Txn: call + 1, Name: rec(thread, call), Mode: api.S}
	return api.Event{Call: call, Thread: thread, Invoke: true, Act: act}
}

// end is the end of a call, with a code.
func end(thread, call, code int) api.Event {
	return api.Event{Call: call, Thread: thread, Act: api.Act{Code: code}}
}

// with is the event v, changed by f.
func with(v api.Event, f func(v *api.Event)) api.Event {
	f(&v)
	return v
}

// fits is the chapter's words on the form of one event, field by field.
func fits(v api.Event) bool {
	if v.Call < 0 || v.Thread < 0 {
		return false
	}
	a := v.Act
	if v.Invoke {
		return slices.Contains([]int{1, 2, 3, 4}, a.Kind) && a.Code == 0
	}
	return slices.Contains([]int{1, 2, 3, 4, 5, 6}, a.Code) && a.Kind == 0 && a.Txn == 0 && a.Name.Table == 0 && a.Name.Record == 0 && a.Mode == 0
}

// fault is what is wrong with v behind the events of before, all of which are right: it looks back over them.
func fault(before []api.Event, v api.Event) api.Errno {
	if !fits(v) {
		return api.ErrArg
	}
	open, twice := 0, false
	ends, begins := 0, 0
	for _, w := range before {
		if w.Invoke && w.Call == v.Call {
			twice = true
		}
		if w.Thread == v.Thread && w.Invoke {
			open++
		}
		if w.Thread == v.Thread && !w.Invoke {
			open--
		}
		if w.Thread == v.Thread && w.Call == v.Call && w.Invoke {
			begins++
		}
		if w.Call == v.Call && !w.Invoke {
			ends++
		}
	}
	switch {
	case v.Invoke && twice:
		return api.ErrTwice
	case v.Invoke && open > 0:
		return api.ErrState
	case !v.Invoke && (begins == 0 || ends > 0):
		return api.ErrNone
	}
	return api.OK
}

// plain is what a history means, found by looking back from each event.
type plain struct {
	at      int
	err     api.Errno
	spans   []api.Span
	pending []int
	left    []api.Event
}

func plainly(l []api.Event) plain {
	var p plain
	part := l
	for i, v := range l {
		if e := fault(l[:i], v); e != api.OK {
			p.at, p.err, part = i, e, l[:i]
			break
		}
	}
	drop := map[int]struct{}{}
	for i, v := range part {
		if !v.Invoke {
			continue
		}
		s := api.Span{Call: v.Call, Thread: v.Thread, From: i, To: -1, Act: v.Act}
		for j, w := range part {
			if !w.Invoke && w.Call == v.Call {
				s.To, s.Act.Code = j, w.Act.Code
			}
		}
		if s.To == -1 {
			p.pending = append(p.pending, s.Call)
			drop[i] = struct{}{}
		}
		p.spans = append(p.spans, s)
	}
	for i, v := range l {
		if _, is := drop[i]; !is {
			p.left = append(p.left, v)
		}
	}
	return p
}

// holds holds all that is told of a history against what it means.
func holds(t *testing.T, l []api.Event) {
	t.Helper()
	p := plainly(l)
	if at, e := history.Check(l); at != p.at || e != p.err {
		t.Fatalf("%v: Check = %d, %d, want %d, %d", l, at, e, p.at, p.err)
	}
	if got := history.Spans(l); !slices.Equal(got, p.spans) {
		t.Fatalf("%v: Spans = %v, want %v", l, got, p.spans)
	}
	if got := history.Pending(l); !slices.Equal(got, p.pending) {
		t.Fatalf("%v: Pending = %v, want %v", l, got, p.pending)
	}
	if got := history.Complete(l); !slices.Equal(got, p.left) {
		t.Fatalf("%v: Complete = %v, want %v", l, got, p.left)
	}
}

// check holds Check against what it must return, and all else against what the history means.
func check(t *testing.T, what any, l []api.Event, at int, err api.Errno) {
	t.Helper()
	if gotAt, got := history.Check(l); gotAt != at || got != err {
		t.Errorf("%v: Check = %d, %d, want %d, %d", what, gotAt, got, at, err)
	}
	holds(t, l)
}

// alphabet is events of three calls of two threads, and one of each kind that never fits.
func alphabet() []api.Event {
	var l []api.Event
	for thread := range 2 {
		for call := range 3 {
			l = append(l, begin(thread, call), end(thread, call, 1+call))
		}
	}
	return append(l, with(begin(0, 0), func(v *api.Event) { v.Act.Code = 1 }), end(0, 0, 0))
}

// histories calls f with each sequence of up to n events of the alphabet; those that are wrong go on by one event alone.
func histories(n int, f func(l []api.Event)) {
	letters := alphabet()
	var extend func(l []api.Event, wrong bool)
	extend = func(l []api.Event, wrong bool) {
		f(l)
		if len(l) == n {
			return
		}
		for _, v := range letters {
			isWrong := fault(l, v) != api.OK
			if !wrong {
				extend(append(slices.Clip(l), v), isWrong)
			} else if len(l) < n-1 {
				f(append(slices.Clip(l), v))
			}
		}
	}
	extend(nil, false)
}

// long is a random history of n events that is valid, of up to that many threads.
func long(r *rand.Rand, n, threads int) []api.Event {
	var l []api.Event
	running := map[int]int{}
	numbers := r.Perm(n)
	for len(l) < n {
		thread := r.Intn(threads)
		call, is := running[thread]
		if is {
			l = append(l, end(thread, call, 1+r.Intn(6)))
			delete(running, thread)
			continue
		}
		call, numbers = numbers[0], numbers[1:]
		l = append(l, begin(thread, call))
		running[thread] = call
	}
	return l
}

// valid calls f with valid histories, short ones and long ones.
func valid(f func(l []api.Event)) {
	histories(6, func(l []api.Event) {
		if plainly(l).err == api.OK {
			f(l)
		}
	})
	r := rand.New(rand.NewSource(8))
	for i := range 200 {
		f(long(r, 1+i, 1+r.Intn(8)))
	}
}

func TestP8_1And8_2OfAllShortHistories(t *testing.T) {
	n := 0
	histories(6, func(l []api.Event) {
		n++
		holds(t, l)
	})
	if n < 10000 {
		t.Errorf("only %d histories", n)
	}
}

func TestP8_1And8_2OfLongHistories(t *testing.T) {
	r := rand.New(rand.NewSource(81))
	for i := range 200 {
		l := long(r, 1+i, 1+r.Intn(8))
		if e := plainly(l).err; e != api.OK {
			t.Fatalf("%v is not valid: %d", l, e)
		}
		holds(t, l)
		// One event is changed, removed or repeated: most of these histories are not valid.
		j, k := r.Intn(len(l)), r.Intn(len(l))
		swapped := slices.Clone(l)
		swapped[j], swapped[k] = swapped[k], swapped[j]
		holds(t, swapped)
		holds(t, slices.Delete(slices.Clone(l), j, j+1))
		holds(t, slices.Insert(slices.Clone(l), j, l[k]))
	}
}

func TestP8_1OfNothing(t *testing.T) {
	check(t, "nil", nil, 0, api.OK)
	check(t, "empty", []api.Event{}, 0, api.OK)
}

func TestP8_1OfValidOnes(t *testing.T) {
	check(t, "a beginning", []api.Event{begin(0, 0)}, 0, api.OK)
	check(t, "a call", []api.Event{begin(0, 0), end(0, 0, 1)}, 0, api.OK)
	check(t, "two of a thread", []api.Event{begin(3, 7), end(3, 7, 6), begin(3, 2), end(3, 2, 1)}, 0, api.OK)
	check(t, "two that overlap", []api.Event{begin(0, 0), begin(1, 1), end(0, 0, 1), end(1, 1, 2)}, 0, api.OK)
	check(t, "one in the other", []api.Event{begin(0, 0), begin(1, 1), end(1, 1, 2), end(0, 0, 1)}, 0, api.OK)
	check(t, "great numbers", []api.Event{begin(math.MaxInt, math.MaxInt), begin(1<<32, 1<<32), begin(0, 0), end(1<<32, 1<<32, 1), end(math.MaxInt, math.MaxInt, 3)}, 0, api.OK)
}

// Numbers of calls and threads are below 0, or are not.
func TestP8_1Numbers(t *testing.T) {
	for _, i := range []int{-1, -2, -8, -256, -1 << 32, math.MinInt32, math.MinInt, math.MinInt + 1} {
		check(t, i, []api.Event{begin(1, i)}, 0, api.ErrArg)
		check(t, i, []api.Event{begin(i, 1)}, 0, api.ErrArg)
		check(t, i, []api.Event{begin(0, 0), end(0, i, 1)}, 1, api.ErrArg)
		check(t, i, []api.Event{begin(0, 0), end(i, 0, 1)}, 1, api.ErrArg)
	}
	for _, i := range []int{0, 1, 7, 8, 9, 255, 256, 1 << 16, 1 << 32, math.MaxInt32, math.MaxInt} {
		check(t, i, []api.Event{begin(1, i), end(1, i, 1)}, 0, api.OK)
		check(t, i, []api.Event{begin(i, 1), end(i, 1, 1)}, 0, api.OK)
	}
}

// numbers is some that kinds and codes have, and many that they do not have.
func numbers() []int {
	l := []int{math.MinInt, -1 << 32, -256, 100, 255, 256, 257, 258, 1<<16 + 1, 1 << 32, 1<<32 + 1, 1<<32 + 6, math.MaxInt}
	for i := -9; i < 20; i++ {
		l = append(l, i)
	}
	return l
}

func errIf(wrong bool) api.Errno {
	if wrong {
		return api.ErrArg
	}
	return api.OK
}

func atIf(wrong bool, at int) int {
	if wrong {
		return at
	}
	return 0
}

func TestP8_1KindsOfBeginnings(t *testing.T) {
	for _, i := range numbers() {
		wrong := i < 1 || i > 4
		v := with(begin(2, 1), func(v *api.Event) { v.Act.Kind = i })
		check(t, i, []api.Event{begin(0, 0), v}, atIf(wrong, 1), errIf(wrong))
	}
}

func TestP8_1CodesOfBeginnings(t *testing.T) {
	for _, i := range numbers() {
		v := with(begin(2, 1), func(v *api.Event) { v.Act.Code = i })
		check(t, i, []api.Event{begin(0, 0), v}, atIf(i != 0, 1), errIf(i != 0))
	}
}

// Nothing is asked of the Txn, the Name and the Mode of a beginning.
func TestP8_1OtherFieldsOfBeginnings(t *testing.T) {
	for _, i := range numbers() {
		for _, act := range []api.Act{
			{Kind: 1}, {Kind: 3, Txn: i}, {Kind: 1, Name: tab(i)}, {Kind: 2, Name: rec(i, i)}, {Kind: 4, Name: rec(3, i)},
			{Kind: 1, Mode: api.Mode(i)}, {Kind: 3, Txn: -i, Name: db(), Mode: api.Mode(i)},
		} {
			check(t, act, []api.Event{{Invoke: true, Act: act}, end(0, 0, 1)}, 0, api.OK)
		}
	}
}

func TestP8_1CodesOfEnds(t *testing.T) {
	for _, i := range numbers() {
		wrong := i < 1 || i > 6
		check(t, i, []api.Event{begin(0, 0), end(0, 0, i)}, atIf(wrong, 1), errIf(wrong))
	}
}

// The Act of an end has a code alone, not even what the beginning has.
func TestP8_1OtherFieldsOfEnds(t *testing.T) {
	for what, f := range map[string]func(a *api.Act){
		"kind":              func(a *api.Act) { a.Kind = 1 },
		"unknown kind":      func(a *api.Act) { a.Kind = -1 },
		"txn":               func(a *api.Act) { a.Txn = 1 },
		"txn below 0":       func(a *api.Act) { a.Txn = -1 },
		"table":             func(a *api.Act) { a.Name.Table = 1 },
		"record":            func(a *api.Act) { a.Name.Record = 1 },
		"database":          func(a *api.Act) { a.Name = db() },
		"mode":              func(a *api.Act) { a.Mode = api.IS },
		"unknown mode":      func(a *api.Act) { a.Mode = 7 },
		"txn of 2^32":       func(a *api.Act) { a.Txn = 1 << 32 },
		"all":               func(a *api.Act) { *a = begin(0, 0).Act; a.Code = 1 },
		"all, without code": func(a *api.Act) { *a = begin(0, 0).Act },
	} {
		v := with(end(0, 0, 1), func(v *api.Event) { f(&v.Act) })
		check(t, what, []api.Event{begin(0, 0), v}, 1, api.ErrArg)
	}
}

func TestP8_1CallThatBeganBefore(t *testing.T) {
	check(t, "it runs", []api.Event{begin(0, 0), begin(1, 0)}, 1, api.ErrTwice)
	check(t, "it runs, in the same thread", []api.Event{begin(0, 0), begin(0, 0)}, 1, api.ErrTwice)
	check(t, "it has ended", []api.Event{begin(0, 5), end(0, 5, 1), begin(0, 5)}, 2, api.ErrTwice)
	check(t, "it has ended, other thread", []api.Event{begin(0, 5), end(0, 5, 1), begin(1, 5)}, 2, api.ErrTwice)
	check(t, "it does something else", []api.Event{begin(0, 0), end(0, 0, 6), {Invoke: true, Act: api.Act{Kind: 3}}}, 2, api.ErrTwice)
	check(t, "long ago", []api.Event{begin(0, 9), begin(1, 0), end(0, 9, 1), begin(0, 1), end(1, 0, 1), begin(1, 9)}, 5, api.ErrTwice)
}

func TestP8_1ThreadThatHasACall(t *testing.T) {
	check(t, "at once", []api.Event{begin(0, 0), begin(0, 1)}, 1, api.ErrState)
	check(t, "later", []api.Event{begin(0, 0), begin(1, 1), end(1, 1, 1), begin(0, 2)}, 3, api.ErrState)
	check(t, "another one has ended", []api.Event{begin(0, 0), end(0, 0, 1), begin(0, 1), begin(0, 2)}, 3, api.ErrState)
	check(t, "no more", []api.Event{begin(0, 0), end(0, 0, 1), begin(0, 1), end(0, 1, 1), begin(0, 2)}, 0, api.OK)
	check(t, "other threads", []api.Event{begin(0, 0), begin(1, 1), begin(2, 2), begin(1<<32, 3)}, 0, api.OK)
}

func TestP8_1EndOfNoSuchCall(t *testing.T) {
	check(t, "the first event", []api.Event{end(0, 0, 1)}, 0, api.ErrNone)
	check(t, "it did not begin", []api.Event{begin(0, 0), end(0, 1, 1)}, 1, api.ErrNone)
	check(t, "it began in another thread", []api.Event{begin(0, 0), end(1, 0, 1)}, 1, api.ErrNone)
	check(t, "the thread has another one", []api.Event{begin(0, 0), begin(1, 1), end(1, 0, 1)}, 2, api.ErrNone)
	check(t, "it has ended", []api.Event{begin(0, 0), end(0, 0, 1), end(0, 0, 1)}, 2, api.ErrNone)
	check(t, "it has ended otherwise", []api.Event{begin(0, 0), end(0, 0, 1), end(0, 0, 2)}, 2, api.ErrNone)
	check(t, "it has ended, another one runs", []api.Event{begin(0, 0), end(0, 0, 1), begin(0, 1), end(0, 0, 1)}, 3, api.ErrNone)
	check(t, "it begins later", []api.Event{end(0, 0, 1), begin(0, 0)}, 0, api.ErrNone)
	check(t, "numbers that are equal when cut", []api.Event{begin(0, 1), end(0, 1<<32+1, 1)}, 1, api.ErrNone)
}

// Where several errors fit, the first one named counts.
func TestP8_1OrderOfErrors(t *testing.T) {
	noKind := func(v *api.Event) { v.Act.Kind = 5 }
	hasCode := func(v *api.Event) { v.Act.Code = 1 }
	runs := []api.Event{begin(0, 0)}
	ran := []api.Event{begin(0, 0), end(0, 0, 1)}
	busy := []api.Event{begin(0, 0), end(0, 0, 1), begin(0, 1)}
	after := func(l []api.Event, v api.Event) []api.Event { return append(slices.Clip(l), v) }
	check(t, "no kind, began before, has one", after(runs, with(begin(0, 0), noKind)), 1, api.ErrArg)
	check(t, "a code, began before", after(ran, with(begin(0, 0), hasCode)), 2, api.ErrArg)
	check(t, "a code, has one", after(runs, with(begin(0, 1), hasCode)), 1, api.ErrArg)
	check(t, "began before, has that one", after(runs, begin(0, 0)), 1, api.ErrTwice)
	check(t, "began before, has another one", after(busy, begin(0, 0)), 3, api.ErrTwice)
	check(t, "no code, did not begin", after(runs, end(0, 1, 0)), 1, api.ErrArg)
	check(t, "no such code, has ended", after(ran, end(0, 0, 7)), 2, api.ErrArg)
	check(t, "a kind, other thread", after(runs, with(end(1, 0, 1), noKind)), 1, api.ErrArg)
	check(t, "below 0, did not begin", after(runs, end(-1, 0, 1)), 1, api.ErrArg)
	check(t, "zero", []api.Event{{}}, 0, api.ErrArg)
}

// The first wrong event counts, whatever comes behind it.
func TestP8_1FirstWrongEvent(t *testing.T) {
	l := []api.Event{begin(0, 0), begin(0, 1), end(0, 0, 9), {}, end(0, 3, 1), begin(0, 0)}
	check(t, "all behind it", l, 1, api.ErrState)
	check(t, "the next one", l[2:], 0, api.ErrArg)
	check(t, "an end alone", l[4:], 0, api.ErrNone)
	check(t, "the last one alone", l[5:], 0, api.OK)
}

func TestP8_4WithoutPendingCalls(t *testing.T) {
	valid(func(l []api.Event) {
		left := history.Complete(l)
		if at, e := history.Check(left); at != 0 || e != api.OK {
			t.Fatalf("%v: Check without its pending calls = %d, %d", l, at, e)
		}
		if got := history.Pending(left); len(got) > 0 {
			t.Fatalf("%v: pending without its pending calls: %v", l, got)
		}
		if got, want := len(history.Spans(left)), len(history.Spans(l))-len(history.Pending(l)); got != want {
			t.Fatalf("%v: %d spans without its pending calls, want %d", l, got, want)
		}
		if got := history.Complete(left); !slices.Equal(got, left) {
			t.Fatalf("%v: without its pending calls twice: %v, want %v", l, got, left)
		}
	})
}

func TestP8_4SpansOfOneThread(t *testing.T) {
	valid(func(l []api.Event) {
		last := map[int]api.Span{}
		for i, s := range history.Spans(l) {
			if p, is := last[s.Thread]; is && (p.To < 0 || p.To >= s.From || !history.Before(p, s)) {
				t.Fatalf("%v: span %d, %v, overlaps %v", l, i, s, p)
			}
			last[s.Thread] = s
		}
	})
}
