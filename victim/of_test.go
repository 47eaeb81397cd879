package victim_test

import (
	"math"
	"slices"
	"testing"

	"latchstring/api"
	"latchstring/queue"
	"latchstring/victim"
)

// head is a head on which transactions ask, one after the other, each for the mode behind it. Whoever asks again upgrades.
func head(t *testing.T, l ...int) api.Head {
	t.Helper()
	h := api.Head{Name: api.Name{Table: 3, Record: 7}}
	for i := 0; i < len(l); i += 2 {
		txn, m := l[i], api.Mode(l[i+1])
		g, _, e := queue.Ask(h, i, txn, m)
		if e == api.ErrTwice {
			at := slices.IndexFunc(h.Queue, func(r api.Request) bool { return r.Txn == txn })
			g, _, e = queue.Upgrade(h, h.Queue[at].ID, m)
		}
		if e != api.OK {
			t.Fatalf("%d can't ask for %d: %d", txn, m, e)
		}
		h = g
	}
	return h
}

const (
	s = int(api.S)
	x = int(api.X)
)

func of(t *testing.T, a []api.Age, want []int, l ...api.Head) {
	t.Helper()
	if got := victim.Of(l, a); !slices.Equal(got, want) {
		t.Errorf("Of(%v, %v) = %v, want %v", l, a, got, want)
	}
}

func TestP14_1OfNothing(t *testing.T) {
	of(t, nil, nil)
	of(t, ages(1, 5), nil)
	of(t, nil, nil, api.Head{})
	of(t, ages(1, 5), nil, head(t, 1, x), head(t, 1, s, 2, s))
}

// Those that wait, but not for each other, have no victim.
func TestP14_1OfThoseThatOnlyWait(t *testing.T) {
	of(t, ages(1, 5), nil, head(t, 1, x, 2, s, 3, x))
	of(t, ages(1, 5), nil, head(t, 1, x, 2, s), head(t, 2, x, 3, s), head(t, 1, s))
}

func TestP14_1OfTwoUpgrades(t *testing.T) {
	h := head(t, 1, s, 2, s, 1, x, 2, x)
	of(t, nil, []int{2}, h)
	of(t, ages(1, 5, 2, 3), []int{1}, h)
	of(t, ages(1, 5, 2, 5), []int{2}, h)
}

func TestP14_1OfSeveralHeads(t *testing.T) {
	a, b, c := head(t, 1, x, 2, s), head(t, 2, x, 3, s), head(t, 3, x, 1, s)
	of(t, nil, []int{3}, a, b, c)
	of(t, nil, []int{3}, c, a, b)
	of(t, ages(2, 9), []int{2}, a, b, c)
	of(t, ages(2, 9), nil, a, b)
	// Two rounds that have nobody in common, the one with the smaller member first.
	d, e := head(t, 6, x, 5, s), head(t, 5, x, 6, x)
	of(t, ages(5, 7), []int{3, 5}, d, e, c, b, a)
}

// Those that wait for one of a cycle, and are in none, are not chosen, however young they are.
func TestP14_1OfThoseBehindACycle(t *testing.T) {
	h := head(t, 1, s, 2, s, 1, x, 2, x, 3, x, 0, s)
	of(t, ages(3, 9, 0, 9), []int{2}, h)
}

func TestP14_1OfAnyNumbers(t *testing.T) {
	least, most := math.MinInt, math.MaxInt
	h := head(t, least, s, most, s, least, x, most, x)
	of(t, nil, []int{most}, h)
	of(t, ages(most, least, least, most), []int{least}, h)
}

func TestP14_1OfOthersReturns(t *testing.T) {
	for _, q := range [][]api.Request{
		{{ID: 1, Txn: 1, Mode: 99, Want: -4, Since: -7}, {ID: 1, Txn: 1, Want: api.X, Since: 3}},
		{{ID: 1, Txn: 1, Mode: api.X, Want: api.X, Since: 1}, {ID: 2, Txn: 1, Mode: api.X, Want: api.X, Since: 1}},
		{{ID: -3, Txn: math.MinInt, Since: math.MaxInt}, {ID: math.MinInt, Txn: math.MaxInt, Want: 9, Since: math.MaxInt}},
		{{}, {Since: 1}, {}, {Since: 1}},
	} {
		h := api.Head{Queue: q, Waits: -1}
		if queue.Check(h) == api.OK {
			t.Fatalf("%v is valid", h)
		}
		victim.Of([]api.Head{h, h}, ages(1, 5, 1, 3))
	}
}
