package history_test

import (
	"cmp"
	"math"
	"math/rand"
	"slices"
	"testing"

	"latchstring/api"
	"latchstring/history"
)

// span is what a span of a call looks like that begin and end make.
func span(thread, call, from, to, code int) api.Span {
	act := begin(thread, call).Act
	act.Code = code
	return api.Span{Call: call, Thread: thread, From: from, To: to, Act: act}
}

// tells holds what is told of the spans of l against what it must be.
func tells(t *testing.T, what string, l []api.Event, spans []api.Span, pending []int, left []api.Event) {
	t.Helper()
	if got := history.Spans(l); !slices.Equal(got, spans) {
		t.Errorf("%s: Spans = %v, want %v", what, got, spans)
	}
	if got := history.Pending(l); !slices.Equal(got, pending) {
		t.Errorf("%s: Pending = %v, want %v", what, got, pending)
	}
	if got := history.Complete(l); !slices.Equal(got, left) {
		t.Errorf("%s: Complete = %v, want %v", what, got, left)
	}
}

func TestP8_2OfNothing(t *testing.T) {
	tells(t, "nil", nil, nil, nil, nil)
	tells(t, "empty", []api.Event{}, nil, nil, nil)
}

func TestP8_2Example(t *testing.T) {
	l := []api.Event{begin(0, 0), begin(1, 1), end(0, 0, 1)}
	tells(t, "the chapter's", l, []api.Span{span(0, 0, 0, 2, 1), span(1, 1, 1, -1, 0)}, []int{1}, []api.Event{l[0], l[2]})
}

func TestP8_2OfEachCode(t *testing.T) {
	for code := 1; code <= 6; code++ {
		l := []api.Event{begin(2, 9), end(2, 9, code)}
		tells(t, "a code", l, []api.Span{span(2, 9, 0, 1, code)}, nil, l)
	}
}

// Calls and spans are told in the order of their beginnings, not of their numbers, nor of their ends.
func TestP8_2Order(t *testing.T) {
	l := []api.Event{begin(2, 9), begin(0, 4), begin(1, 7), begin(3, 0), end(3, 0, 2), end(0, 4, 5)}
	spans := []api.Span{span(2, 9, 0, -1, 0), span(0, 4, 1, 5, 5), span(1, 7, 2, -1, 0), span(3, 0, 3, 4, 2)}
	tells(t, "descending", l, spans, []int{9, 7}, []api.Event{l[1], l[3], l[4], l[5]})
}

func TestP8_2AllPending(t *testing.T) {
	l := []api.Event{begin(2, 5), begin(0, 3), begin(1, 4)}
	tells(t, "all", l, []api.Span{span(2, 5, 0, -1, 0), span(0, 3, 1, -1, 0), span(1, 4, 2, -1, 0)}, []int{5, 3, 4}, nil)
}

// Of a history that is not valid, the part before the first wrong event counts; but Complete keeps what is behind it.
func TestP8_2OfOneThatIsNotValid(t *testing.T) {
	l := []api.Event{begin(0, 0), begin(1, 1), end(0, 0, 1), begin(1, 2), end(1, 1, 1), begin(3, 3), begin(0, 0)}
	spans := []api.Span{span(0, 0, 0, 2, 1), span(1, 1, 1, -1, 0)}
	tells(t, "a thread with two calls", l, spans, []int{1}, []api.Event{l[0], l[2], l[3], l[4], l[5], l[6]})
	l[3] = begin(2, 0)
	tells(t, "a call that began", l, spans, []int{1}, []api.Event{l[0], l[2], l[3], l[4], l[5], l[6]})
	l[3] = end(1, 1, 7)
	tells(t, "no such code", l, spans, []int{1}, []api.Event{l[0], l[2], l[3], l[4], l[5], l[6]})
	l[0] = end(0, 0, 1)
	tells(t, "wrong from the first on", l, nil, nil, l)
	l = []api.Event{begin(0, 0), end(0, 0, 1), end(0, 0, 2)}
	tells(t, "a second end", l, []api.Span{span(0, 0, 0, 1, 1)}, nil, l)
}

func of(t *testing.T, l []api.Event, thread int, want ...api.Event) {
	t.Helper()
	if got := history.Of(l, thread); !slices.Equal(got, want) {
		t.Errorf("Of(%v, %d) = %v, want %v", l, thread, got, want)
	}
}

func TestP8_2Of(t *testing.T) {
	l := []api.Event{begin(0, 0), begin(2, 1), end(0, 0, 1), end(2, 1, 6), begin(0, 2)}
	of(t, l, 0, l[0], l[2], l[4])
	of(t, l, 2, l[1], l[3])
	for _, i := range []int{1, 3, -1, 256, 1 << 32, 1<<32 + 2, math.MaxInt, math.MinInt} {
		of(t, l, i)
	}
	of(t, nil, 0)
	of(t, []api.Event{}, 0)
}

// Of takes any events, valid or not.
func TestP8_2OfTakesAnyEvents(t *testing.T) {
	l := []api.Event{end(0, 0, 9), end(0, 0, 9), {}, begin(-1, 0), begin(1<<32, 1), begin(0, -7), begin(-1, 0)}
	of(t, l, 0, l[0], l[1], l[2], l[5])
	of(t, l, -1, l[3], l[6])
	of(t, l, 1<<32, l[4])
	of(t, l, 1)
}

func fromTo(from, to int) api.Span { return api.Span{From: from, To: to} }

func before(t *testing.T, a, b api.Span, want bool) {
	t.Helper()
	if got := history.Before(a, b); got != want {
		t.Errorf("Before(%v, %v) = %v", a, b, got)
	}
}

func TestP8_3Before(t *testing.T) {
	before(t, fromTo(0, 1), fromTo(2, 3), true)
	before(t, fromTo(2, 3), fromTo(0, 1), false)
	before(t, fromTo(0, 2), fromTo(1, 3), false)
	before(t, fromTo(0, 3), fromTo(1, 2), false)
	before(t, fromTo(1, 2), fromTo(0, 3), false)
	before(t, fromTo(0, 1), fromTo(2, -1), true)
	before(t, fromTo(0, -1), fromTo(2, 3), false)
	before(t, fromTo(0, -1), fromTo(2, -1), false)
}

// It takes any numbers: a To below 0 is no end, however small it is.
func TestP8_3BeforeTakesAnySpans(t *testing.T) {
	l := []int{math.MinInt, math.MinInt + 1, -1 << 32, -2, -1, 0, 1, 2, 5, 1 << 32, math.MaxInt - 1, math.MaxInt}
	for _, to := range l {
		for _, from := range l {
			for _, other := range l {
				before(t, fromTo(other, to), fromTo(from, other), to >= 0 && to < from)
			}
		}
	}
	same := fromTo(5, 2)
	before(t, same, same, true)
	before(t, fromTo(2, 2), fromTo(2, 2), false)
}

// Before looks at nothing but the indexes.
func TestP8_3BeforeOfOneThread(t *testing.T) {
	before(t, span(3, 1, 0, 4, 1), span(3, 2, 3, 5, 1), false)
	before(t, span(3, 1, 0, 2, 1), span(0, 1, 3, 5, 1), true)
}

// respectsPlainly is the chapter's words: each index once, and no pair the wrong way round.
func respectsPlainly(l []api.Span, order []int) bool {
	for i := range l {
		n := 0
		for _, j := range order {
			if i == j {
				n++
			}
		}
		if n != 1 {
			return false
		}
	}
	if len(order) != len(l) {
		return false
	}
	for j := range order {
		for i := range j {
			first, second := l[order[i]], l[order[j]]
			if second.To >= 0 && second.To < first.From {
				return false
			}
		}
	}
	return true
}

func respects(t *testing.T, l []api.Span, want bool, order ...int) {
	t.Helper()
	if got := history.Respects(l, order); got != want {
		t.Fatalf("Respects(%v, %v) = %v", l, order, got)
	}
}

// sequences calls f with each sequence of n of the numbers.
func sequences[T any](n int, numbers []T, f func(l []T)) {
	var extend func(l []T)
	extend = func(l []T) {
		if len(l) == n {
			f(l)
			return
		}
		for _, i := range numbers {
			extend(append(slices.Clip(l), i))
		}
	}
	extend(nil)
}

func TestP8_3RespectsOfFewSpans(t *testing.T) {
	var spans []api.Span
	for from := -1; from < 4; from++ {
		for to := -2; to < 4; to++ {
			spans = append(spans, fromTo(from, to))
		}
	}
	for n, numbers := range [][]int{{-1, 0, 1}, {-1, 0, 1, 2}, {-1, 0, 1, 2, 3}} {
		sequences(n, spans, func(l []api.Span) {
			for m := range n + 2 {
				sequences(m, numbers, func(order []int) { respects(t, l, respectsPlainly(l, order), order...) })
			}
		})
	}
}

// Three spans: each permutation, and orders that are none.
func TestP8_3RespectsOfThree(t *testing.T) {
	var spans []api.Span
	for from := range 4 {
		for to := -1; to < 4; to++ {
			spans = append(spans, fromTo(from, to))
		}
	}
	sequences(3, spans, func(l []api.Span) {
		sequences(3, []int{0, 1, 2}, func(order []int) { respects(t, l, respectsPlainly(l, order), order...) })
	})
}

func lateIfPending(s api.Span) int {
	if s.To < 0 {
		return math.MaxInt
	}
	return s.To
}

func TestP8_3RespectsOfHistories(t *testing.T) {
	r := rand.New(rand.NewSource(83))
	yes, no := 0, 0
	for range 400 {
		l := history.Spans(long(r, 2+r.Intn(30), 1+r.Intn(8)))
		order := make([]int, len(l))
		for i := range order {
			order[i] = i
		}
		respects(t, l, true, order...)
		// By their ends, those that have none last, is one that respects it, too.
		slices.SortStableFunc(order, func(i, j int) int { return cmp.Compare(lateIfPending(l[i]), lateIfPending(l[j])) })
		respects(t, l, true, order...)
		for range 20 {
			i := r.Intn(len(order))
			j := min(i+1, len(order)-1)
			order[i], order[j] = order[j], order[i]
			want := respectsPlainly(l, order)
			respects(t, l, want, order...)
			if want {
				yes++
			} else {
				no++
			}
		}
	}
	if yes < 100 || no < 100 {
		t.Errorf("%d respect it, %d do not", yes, no)
	}
}

func TestP8_3RespectsNoOtherOrders(t *testing.T) {
	l := []api.Span{fromTo(0, -1), fromTo(1, -1), fromTo(2, -1)}
	respects(t, l, true, 2, 0, 1)
	for _, order := range [][]int{
		nil, {}, {0}, {0, 1}, {0, 1, 2, 2}, {0, 1, 2, 3}, {2, 1, 0, -1}, {0, 0, 1, 2}, {0, 1, 2, 0, 1, 2},
		{0, 1, 1}, {0, 0, 0}, {2, 2, 1}, {0, 1, 3}, {-1, 0, 1}, {1, 2, 3}, {0, 1, -1}, {0, 1, 2 + 1<<32}, {0, 1, math.MaxInt}, {math.MinInt, 1, 2},
	} {
		respects(t, l, false, order...)
	}
}

func TestP8_3RespectsOfNoSpans(t *testing.T) {
	respects(t, nil, true)
	respects(t, []api.Span{}, true)
	respects(t, nil, true, []int{}...)
	for _, i := range []int{0, 1, -1, math.MaxInt, math.MinInt} {
		respects(t, nil, false, i)
	}
}

// A pair counts wherever it is, also when many that are not before one another are between.
func TestP8_3RespectsLooksAtEachPair(t *testing.T) {
	l := []api.Span{fromTo(0, 1), fromTo(0, 90), fromTo(0, -1), fromTo(0, 90), fromTo(2, 3)}
	respects(t, l, true, 0, 1, 2, 3, 4)
	respects(t, l, false, 4, 1, 2, 3, 0)
	respects(t, l, false, 1, 2, 4, 3, 0)
	respects(t, l, false, 1, 4, 0, 2, 3)
	respects(t, l, true, 2, 0, 4, 1, 3)
}

// Spans that no history has: each of two is before the other one, so no order will do; one that is before itself does no harm.
func TestP8_3RespectsTakesAnySpans(t *testing.T) {
	l := []api.Span{fromTo(5, 0), fromTo(3, 1)}
	respects(t, l, false, 0, 1)
	respects(t, l, false, 1, 0)
	respects(t, l[:1], true, 0)
	least := []api.Span{fromTo(math.MinInt, math.MinInt), fromTo(math.MinInt, 0), fromTo(math.MaxInt, math.MaxInt)}
	sequences(3, []int{0, 1, 2}, func(order []int) { respects(t, least, respectsPlainly(least, order), order...) })
}

// Its calls do not matter, only the indexes of the list.
func TestP8_3RespectsIndexesNotCalls(t *testing.T) {
	l := []api.Span{span(0, 1, 0, 1, 1), span(0, 0, 2, 3, 1)}
	respects(t, l, true, 0, 1)
	respects(t, l, false, 1, 0)
}

// spare is a copy of l with elements of its own behind it, which are nobody's business.
func spare[T any](l []T, behind ...T) []T {
	return append(slices.Clip(slices.Clone(l)), behind...)[:len(l)]
}

func TestP8_ArgumentsStayAsTheyAre(t *testing.T) {
	l := []api.Event{begin(0, 0), begin(1, 1), end(0, 0, 1), begin(2, 2), end(2, 2, 3)}
	behind := []api.Event{end(1, 1, 4), begin(5, 5), end(0, 9, 9)}
	events := spare(l, behind...)
	check(t, "with spare capacity", events, 0, api.OK)
	history.Of(events, 0)
	if !slices.Equal(events[:len(l)+3], slices.Concat(l, behind)) {
		t.Errorf("the events have become %v", events[:len(l)+3])
	}
	want := history.Spans(l)
	spans := spare(want, span(9, 9, 9, 9, 1))
	order := spare([]int{1, 0, 2}, 3)
	respects(t, spans, true, order...)
	if !slices.Equal(spans, want) || spans[:4][3] != span(9, 9, 9, 9, 1) || !slices.Equal(order[:4], []int{1, 0, 2, 3}) {
		t.Errorf("the spans have become %v, the order %v", spans[:4], order[:4])
	}
}

// overwrite writes v over l and its spare capacity.
func overwrite[T any](l []T, v T) {
	l = l[:cap(l)]
	for i := range l {
		l[i] = v
	}
}

func TestP8_ResultsAreNewMemory(t *testing.T) {
	for _, want := range [][]api.Event{
		{begin(0, 0), end(0, 0, 1)},
		{begin(0, 0), begin(1, 1), end(0, 0, 1)},
		{begin(1, 1), begin(0, 0), end(0, 0, 1), begin(0, 2), end(0, 2, 1)},
		{begin(0, 0), end(0, 0, 1), end(0, 0, 1), begin(0, 0)},
	} {
		l := spare(want, begin(7, 7))
		overwrite(history.Complete(l), api.Event{Call: -5})
		overwrite(history.Of(l, 0), api.Event{Call: -6})
		overwrite(history.Spans(l), api.Span{Call: -7})
		overwrite(history.Pending(l), -8)
		if !slices.Equal(l[:len(l)+1], append(slices.Clip(want), begin(7, 7))) {
			t.Errorf("a result is part of %v, which has become %v", want, l[:len(l)+1])
		}
		holds(t, l)
	}
}
