package table_test

import (
	"math"
	"math/rand"
	"slices"
	"testing"

	"latchstring/api"
	"latchstring/table"
)

func TestExamples(t *testing.T) {
	for stripes := 1; stripes <= mostStripes; stripes++ {
		x := made(t, caps(stripes, 2, 4))
		ask(t, x, db(), 1, api.IS, 0, true)
		ask(t, x, tab(3), 1, api.S, 1, true)
		heldIs(t, x.Holds(1), held(1, db(), api.IS), held(1, tab(3), api.S))
		y := made(t, caps(stripes, 2, 4))
		ask(t, y, tab(3), 1, api.S, 0, true)
		ask(t, y, db(), 1, api.IS, 1, true)
		heldIs(t, y.Holds(1), held(1, db(), api.IS), held(1, tab(3), api.S))
	}
}

func heldIs(t *testing.T, got []api.Held, want ...api.Held) {
	t.Helper()
	if !slices.Equal(got, want) {
		t.Errorf("%v is held, want %v", got, want)
	}
}

func TestP12_2GetAndFind(t *testing.T) {
	a, b := apart()
	x := made(t, caps(2, 1, 6))
	ask(t, x, b, 1, api.S, 0, true)
	ask(t, x, a, 2, api.X, 1, true)
	ask(t, x, b, 2, api.X, 2, false)
	ask(t, x, a, 0, api.IS, 3, false)
	want := []api.Head{head(a, 1, has(1, 2, api.X), wants(3, 0, api.IS, 1)), head(b, 1, has(0, 1, api.S), wants(2, 2, api.X, 1))}
	holds(t, x, want...)
	for _, id := range append(noIDs(), 4, 5, 6) {
		hasNo(t, x, id)
	}
	for _, txn := range []int{3, -1, math.MaxInt, math.MinInt, 1 << 32, 1<<32 + 1, 1<<32 + 2} {
		findsNo(t, x, a, txn)
		findsNo(t, x, b, txn)
	}
	findsNo(t, x, a, 1)
	findsNo(t, x, b, 0)
	for _, n := range append(noNames(), tab(77), rec(0, 77), rec(99, 99)) {
		for txn := range 3 {
			findsNo(t, x, n, txn)
		}
	}
	holds(t, x, want...)
}

func TestP12_2Stripe(t *testing.T) {
	for stripes := 1; stripes <= mostStripes; stripes++ {
		x := made(t, caps(stripes, 1, 1))
		for _, n := range names() {
			if got, want := x.Stripe(n), stripeOf(n, stripes); got != want {
				t.Fatalf("Stripe(%v) = %d of %d, want %d", n, got, stripes, want)
			}
		}
		for _, n := range noNames() {
			if got := x.Stripe(n); got != -1 {
				t.Errorf("Stripe(%v) = %d", n, got)
			}
		}
		holds(t, x)
	}
}

// Requests that upgrade hold what they held, those that only wait nothing.
func TestP12_2HoldsAndAll(t *testing.T) {
	x := made(t, caps(3, 4, 12))
	ask(t, x, rec(3, 7), 2, api.S, 0, true)
	ask(t, x, tab(10), 2, api.IX, 1, true)
	ask(t, x, db(), 2, api.IX, 2, true)
	ask(t, x, tab(3), 2, api.IS, 3, true)
	ask(t, x, rec(3, 7), -1, api.S, 4, true)
	ask(t, x, tab(3), -1, api.IS, 5, true)
	ask(t, x, rec(3, 7), 1, api.X, 6, false)
	upgrade(t, x, 0, api.X, false, api.OK)
	ask(t, x, tab(10), 1, api.IX, 7, true)
	ask(t, x, tab(2), 1, api.U, 8, true)
	heldIs(t, x.Holds(-1), held(-1, tab(3), api.IS), held(-1, rec(3, 7), api.S))
	heldIs(t, x.Holds(1), held(1, tab(2), api.U), held(1, tab(10), api.IX))
	heldIs(t, x.Holds(2), held(2, db(), api.IX), held(2, tab(3), api.IS), held(2, rec(3, 7), api.S), held(2, tab(10), api.IX))
	for _, txn := range []int{0, 3, -2, math.MaxInt, math.MinInt, 1 << 32, 1<<32 + 1} {
		heldIs(t, x.Holds(txn))
	}
	heldIs(t, x.All(),
		held(-1, tab(3), api.IS), held(-1, rec(3, 7), api.S),
		held(1, tab(2), api.U), held(1, tab(10), api.IX),
		held(2, db(), api.IX), held(2, tab(3), api.IS), held(2, rec(3, 7), api.S), held(2, tab(10), api.IX))
	leave(t, x, 4, 0)
	heldIs(t, x.Holds(2), held(2, db(), api.IX), held(2, tab(3), api.IS), held(2, rec(3, 7), api.X), held(2, tab(10), api.IX))
	hand(t, x, 2, math.MinInt, api.OK)
	heldIs(t, x.Holds(math.MinInt), held(math.MinInt, db(), api.IX))
	heldIs(t, x.All()[:2], held(math.MinInt, db(), api.IX), held(-1, tab(3), api.IS))
}

// Names and transactions in any order are told in theirs, whatever stripes they have.
func TestP12_2Order(t *testing.T) {
	l := []api.Name{db(), tab(0), rec(0, 0), rec(0, 2), rec(0, 10), rec(0, 99), tab(1), tab(2), rec(2, 1), tab(10), rec(10, 3), tab(99), rec(99, 0), rec(99, 99)}
	txns := []int{math.MinInt, -8, -1, 0, 1, 2, 10, 1 << 32, math.MaxInt}
	var all []api.Held
	for _, txn := range txns {
		for _, n := range l {
			all = append(all, held(txn, n, api.IS))
		}
	}
	for seed := range int64(32) {
		x := made(t, caps(1+int(seed)%mostStripes, len(l), len(all)))
		for id, i := range rand.New(rand.NewSource(seed)).Perm(len(all)) {
			ask(t, x, all[i].Name, all[i].Txn, api.IS, id, true)
		}
		heldIs(t, x.All(), all...)
		for i, txn := range txns {
			heldIs(t, x.Holds(txn), all[i*len(l):(i+1)*len(l)]...)
		}
		var got []api.Name
		for _, h := range x.Snapshot() {
			got = append(got, h.Name)
		}
		if !slices.Equal(got, l) {
			t.Errorf("seed %d: Snapshot() = %v", seed, got)
		}
		if h, r := x.Counts(); h != len(l) || r != len(all) {
			t.Errorf("Counts() = %d, %d", h, r)
		}
	}
}

func TestP12_2SnapshotIsNew(t *testing.T) {
	a, b := apart()
	x := made(t, caps(2, 2, 4))
	ask(t, x, a, 1, api.S, 0, true)
	ask(t, x, a, 2, api.X, 1, false)
	ask(t, x, b, 1, api.S, 2, true)
	want := []api.Head{head(a, 1, has(0, 1, api.S), wants(1, 2, api.X, 1)), head(b, 0, has(2, 1, api.S))}
	first, second := x.Snapshot(), x.Snapshot()
	for i, h := range first {
		for j := range h.Queue[:cap(h.Queue)] {
			h.Queue[:cap(h.Queue)][j] = has(99, 99, api.IX)
		}
		first[i] = api.Head{}
	}
	for i := range first[:cap(first)] {
		first[:cap(first)][i] = head(tab(50), 7)
	}
	if !sameHeads(second, want) {
		t.Errorf("%v, want %v", second, want)
	}
	holds(t, x, want...)
	ask(t, x, a, 3, api.X, 3, false)
	leave(t, x, 0, 1)
	if !sameHeads(second, want) {
		t.Errorf("%v, want %v", second, want)
	}
}

func TestP12_2WhatIsHeldIsNew(t *testing.T) {
	a, b := apart()
	x := made(t, caps(2, 2, 4))
	ask(t, x, a, 1, api.S, 0, true)
	ask(t, x, b, 1, api.S, 1, true)
	ask(t, x, b, 2, api.S, 2, true)
	for _, l := range [][]api.Held{x.All(), x.Holds(1), x.Holds(2)} {
		for i := range l[:cap(l)] {
			l[:cap(l)][i] = held(9, tab(50), api.X)
		}
	}
	holds(t, x, head(a, 0, has(0, 1, api.S)), head(b, 0, has(1, 1, api.S), has(2, 2, api.S)))
	heldIs(t, x.All(), held(1, a, api.S), held(1, b, api.S), held(2, b, api.S))
	all, one := x.All(), x.Holds(1)
	leave(t, x, 0)
	upgrade(t, x, 1, api.U, true, api.OK)
	heldIs(t, all, held(1, a, api.S), held(1, b, api.S), held(2, b, api.S))
	heldIs(t, one, held(1, a, api.S), held(1, b, api.S))
}

func TestP12_2WhatWasGrantedIsNew(t *testing.T) {
	x := made(t, caps(2, 1, 6))
	for i, m := range []api.Mode{api.X, api.S, api.S, api.X, api.S, api.S} {
		ask(t, x, tab(0), i, m, i, i == 0)
	}
	first, _ := x.Leave(0)
	second, _ := x.Abandon(3)
	for _, l := range [][]int{first, second} {
		all := l[:cap(l)]
		for i := range all {
			all[i] += 100
		}
	}
	if !slices.Equal(first, []int{101, 102}) || !slices.Equal(second, []int{104, 105}) {
		t.Error(first, second)
	}
	holds(t, x, head(tab(0), 5, has(1, 1, api.S), has(2, 2, api.S), has(4, 4, api.S), has(5, 5, api.S)))
}

func TestP12_2Counts(t *testing.T) {
	a, b := namesIn(0, 2, 2), namesIn(1, 2, 2)
	x := made(t, caps(2, 2, 6))
	counts := func(heads, requests int) {
		t.Helper()
		if h, r := x.Counts(); h != heads || r != requests {
			t.Errorf("Counts() = %d, %d, want %d, %d", h, r, heads, requests)
		}
	}
	counts(0, 0)
	x.Ask(a[0], 1, api.X)
	counts(1, 1)
	x.Ask(a[0], 2, api.X)
	counts(1, 2)
	x.Ask(b[0], 1, api.X)
	counts(2, 3)
	x.Ask(a[1], 1, api.S)
	counts(3, 4)
	x.Ask(a[1], 2, api.S)
	counts(3, 5)
	x.Ask(a[1], 2, api.S) // twice
	x.Ask(noNames()[0], 2, api.S)
	x.Upgrade(3, api.X)
	counts(3, 5)
	x.Abandon(3)
	x.Hand(3, 9)
	counts(3, 5)
	x.Abandon(1)
	counts(3, 4)
	x.Leave(2)
	counts(2, 3)
	x.Leave(0)
	x.Leave(3)
	counts(1, 1)
	x.Leave(4)
	counts(0, 0)
}

func TestInvalidTable(t *testing.T) {
	whole := made(t, caps(2, 2, 4))
	ask(t, whole, tab(0), 1, api.S, 0, true)
	ask(t, whole, tab(0), 2, api.X, 1, false)
	copied := *whole
	for _, x := range []*table.Table{nil, {}, &copied} {
		for _, n := range []api.Name{db(), tab(0), tab(1), rec(0, 100)} {
			for _, m := range []api.Mode{api.None, api.S, 7} {
				askNot(t, x, n, 1, m, api.ErrNil)
				askNot(t, x, n, 3, m, api.ErrNil)
			}
			for txn := range 3 {
				findsNo(t, x, n, txn)
			}
			if got := x.Stripe(n); got != -1 {
				t.Errorf("Stripe(%v) = %d", n, got)
			}
		}
		for _, id := range []int{-1, 0, 1, 2, 128} {
			for _, m := range []api.Mode{api.None, api.S, 7} {
				upgrade(t, x, id, m, false, api.ErrNil)
			}
			leaveNot(t, x, id, api.ErrNil)
			abandonNot(t, x, id, api.ErrNil)
			hand(t, x, id, 1, api.ErrNil)
			hand(t, x, id, 3, api.ErrNil)
			hasNo(t, x, id)
			heldIs(t, x.Holds(id))
		}
		heldIs(t, x.All())
		holds(t, x)
		if got := x.Caps(); got != (api.Caps{}) {
			t.Errorf("Caps() = %v", got)
		}
	}
	holds(t, whole, head(tab(0), 1, has(0, 1, api.S), wants(1, 2, api.X, 1)))
}
