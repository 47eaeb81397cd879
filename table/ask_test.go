package table_test

import (
	"math"
	"testing"

	"latchstring/api"
	"latchstring/table"
)

func TestP12_1New(t *testing.T) {
	for stripes := 1; stripes <= mostStripes; stripes++ {
		newIs(t, api.Caps{Stripes: stripes, Heads: 3, Requests: 5, Pool: 1})
	}
	for heads := 1; heads <= mostHeads; heads++ {
		newIs(t, api.Caps{Stripes: 2, Heads: heads, Requests: 5, Pool: 1})
	}
	for requests := 1; requests <= mostRequests; requests++ {
		newIs(t, api.Caps{Stripes: 2, Heads: 3, Requests: requests, Pool: 1})
	}
	for most := 0; most <= mostPool; most++ {
		newIs(t, api.Caps{Stripes: 2, Heads: 3, Requests: 5, Pool: most})
	}
	newIs(t, api.Caps{Stripes: 1, Heads: 1, Requests: 1, Pool: 0})
	newIs(t, api.Caps{Stripes: mostStripes, Heads: mostHeads, Requests: mostRequests, Pool: mostPool})
}

// newIs makes a table, which must be empty.
func newIs(t *testing.T, c api.Caps) {
	t.Helper()
	x := made(t, c)
	holds(t, x)
	if len(x.All()) != 0 || len(x.Holds(0)) != 0 || len(x.Holds(1)) != 0 {
		t.Errorf("%v holds %v", c, x.All())
	}
	if got := x.Caps(); got != c {
		t.Errorf("Caps() = %v, want %v", got, c)
	}
	gone(t, x, 0)
}

// beyond is what is not from least to most; some are when cut to 32, 16 or 8 bits.
func beyond(least, most int) []int {
	return []int{least - 1, least - 2, -most, most + 1, most + 2, 2*most + 1, 256 + least, 256 + most, 1<<16 + least, 1<<16 + most, 1<<32 + least, 1<<32 + most, math.MaxInt32, math.MinInt32, math.MaxInt, math.MinInt, math.MinInt + least, math.MinInt + most}
}

func TestP12_1NewOfOtherCaps(t *testing.T) {
	whole := api.Caps{Stripes: 2, Heads: 3, Requests: 5, Pool: 1}
	for _, i := range beyond(1, mostStripes) {
		c := whole
		c.Stripes = i
		newNot(t, c)
	}
	for _, i := range beyond(1, mostHeads) {
		c := whole
		c.Heads = i
		newNot(t, c)
	}
	for _, i := range beyond(1, mostRequests) {
		c := whole
		c.Requests = i
		newNot(t, c)
	}
	for _, i := range []int{-1, -2, -8, 9, 10, 17, 256, 257, 264, 1 << 16, 1 << 32, 1<<32 + 8, math.MaxInt32, math.MinInt32, math.MaxInt, math.MinInt, math.MinInt + 8} {
		c := whole
		c.Pool = i
		newNot(t, c)
	}
	newNot(t, api.Caps{})
	newNot(t, api.Caps{Stripes: -1, Heads: 65, Requests: 0, Pool: 9})
}

func newNot(t *testing.T, c api.Caps) {
	t.Helper()
	if x, e := table.New(c); x != nil || e != api.ErrArg {
		t.Errorf("New(%v) = %v, %d", c, x, e)
	}
}

// Two tables have nothing in common.
func TestP12_1NewIsApart(t *testing.T) {
	a, b := made(t, caps(2, 3, 4)), made(t, caps(2, 3, 4))
	ask(t, a, tab(0), 1, api.X, 0, true)
	ask(t, b, tab(0), 2, api.X, 0, true)
	ask(t, b, tab(1), 2, api.X, 1, true)
	holds(t, a, head(tab(0), 0, has(0, 1, api.X)))
	holds(t, b, head(tab(0), 0, has(0, 2, api.X)), head(tab(1), 0, has(1, 2, api.X)))
	leave(t, b, 0)
	holds(t, a, head(tab(0), 0, has(0, 1, api.X)))
}

func TestP12_1AskOfEachMode(t *testing.T) {
	for stripes := 1; stripes <= mostStripes; stripes++ {
		for _, n := range []api.Name{db(), tab(0), tab(99), rec(0, 0), rec(99, 99), rec(3, 7)} {
			for _, m := range modes() {
				x := made(t, caps(stripes, 1, 1))
				ask(t, x, n, 5, m, 0, true)
				holds(t, x, head(n, 0, has(0, 5, m)))
			}
		}
	}
}

func TestP12_1AskOfNoName(t *testing.T) {
	x := made(t, caps(3, 1, 2))
	ask(t, x, tab(0), 1, api.S, 0, true)
	for range 2 {
		for _, n := range noNames() {
			for _, m := range append(modes(), noModes()...) {
				askNot(t, x, n, 1, m, api.ErrArg)
				askNot(t, x, n, 2, m, api.ErrArg)
			}
		}
		holds(t, x, head(tab(0), 0, has(0, 1, api.S)))
	}
	ask(t, x, tab(0), 2, api.X, 1, false)
	for _, n := range noNames() {
		askNot(t, x, n, 3, api.S, api.ErrArg) // not ErrFull
	}
}

func TestP12_1AskOfNoMode(t *testing.T) {
	x := made(t, caps(4, 1, 2))
	ask(t, x, tab(0), 1, api.S, 0, true)
	for _, m := range noModes() {
		for _, n := range []api.Name{db(), tab(0), tab(1), rec(0, 0)} {
			askNot(t, x, n, 1, m, api.ErrArg) // not ErrTwice
			askNot(t, x, n, 2, m, api.ErrArg)
		}
	}
	holds(t, x, head(tab(0), 0, has(0, 1, api.S)))
	ask(t, x, tab(0), 2, api.S, 1, true)
	for _, m := range noModes() {
		askNot(t, x, tab(0), 3, m, api.ErrArg) // not ErrFull
	}
}

func TestP12_1AskTwice(t *testing.T) {
	x := made(t, caps(4, 2, 3))
	ask(t, x, tab(0), 1, api.S, 0, true)
	ask(t, x, tab(0), 2, api.X, 1, false)
	ask(t, x, rec(0, 0), 1, api.X, 2, true)
	for _, m := range modes() {
		askNot(t, x, tab(0), 1, m, api.ErrTwice) // not ErrFull
		askNot(t, x, tab(0), 2, m, api.ErrTwice)
		askNot(t, x, rec(0, 0), 1, m, api.ErrTwice)
		askNot(t, x, rec(0, 0), 2, m, api.ErrFull)
	}
	holds(t, x, head(tab(0), 1, has(0, 1, api.S), wants(1, 2, api.X, 1)), head(rec(0, 0), 0, has(2, 1, api.X)))
	leave(t, x, 1)
	ask(t, x, tab(0), 2, api.IS, 1, true)
}

// Any number is a transaction here.
func TestP12_1AskOfAnyTransaction(t *testing.T) {
	x := made(t, caps(2, 1, 6))
	want := head(tab(5), 0)
	for id, txn := range []int{0, -1, math.MaxInt, math.MinInt, 1 << 32, 1<<32 + 1} {
		ask(t, x, tab(5), txn, api.IS, id, true)
		want.Queue = append(want.Queue, has(id, txn, api.IS))
	}
	holds(t, x, want)
}

// Each stripe has Heads heads, whatever the others have.
func TestP12_1HeadsOfEachStripe(t *testing.T) {
	for _, stripes := range []int{1, 2, 3, 16} {
		for _, most := range []int{1, 2, 128 / stripes / 2} {
			headsOfEachStripe(t, stripes, min(most, mostHeads))
		}
	}
}

func headsOfEachStripe(t *testing.T, stripes, most int) {
	t.Helper()
	x := made(t, caps(stripes, most, mostRequests))
	id := 0
	for s := range stripes {
		l := namesIn(s, stripes, most+2)
		for _, n := range l[:most] {
			ask(t, x, n, 1, api.X, id, true)
			id++
		}
		for _, n := range l[most:] {
			askNot(t, x, n, 1, api.X, api.ErrFull)
			findsNo(t, x, n, 1)
		}
		ask(t, x, l[0], 2, api.X, id, false) // a name that is there
		leave(t, x, id)
		if h, r := x.Counts(); h != (s+1)*most || r != id {
			t.Errorf("%d stripes of %d: Counts() = %d, %d, want %d", stripes, most, h, r, id)
		}
	}
}

// A head that is gone makes room in its own stripe alone.
func TestP12_1HeadsThatAreGone(t *testing.T) {
	a, b := namesIn(0, 2, 3), namesIn(1, 2, 3)
	x := made(t, caps(2, 1, 9))
	ask(t, x, a[0], 1, api.X, 0, true)
	ask(t, x, b[0], 1, api.X, 1, true)
	leave(t, x, 0)
	askNot(t, x, b[1], 1, api.X, api.ErrFull)
	ask(t, x, a[1], 1, api.X, 0, true)
	askNot(t, x, a[0], 1, api.X, api.ErrFull)
	leave(t, x, 1)
	askNot(t, x, a[2], 1, api.X, api.ErrFull)
	ask(t, x, b[2], 1, api.X, 1, true)
}

// Requests is the limit of all stripes together, those that wait among them.
func TestP12_1RequestsOfAll(t *testing.T) {
	for _, most := range []int{1, 2, 5, mostRequests} {
		x := made(t, caps(4, mostHeads, most))
		l := names()
		for id := range most {
			ask(t, x, l[id/2], id%2, api.X, id, id%2 == 0)
		}
		for _, n := range l[:200] {
			askNot(t, x, n, 7, api.IS, api.ErrFull)
		}
		if _, r := x.Counts(); r != most {
			t.Errorf("%d requests of %d", r, most)
		}
		leave(t, x, most-1)
		ask(t, x, l[199], 7, api.IS, most-1, true)
		askNot(t, x, l[198], 7, api.IS, api.ErrFull)
	}
}

// IDs are lent to requests of all stripes, the smallest that is free first.
func TestP12_1IDsOfAllStripes(t *testing.T) {
	a, b := namesIn(0, 2, 2), namesIn(1, 2, 2)
	x := made(t, caps(2, 2, 6))
	ask(t, x, a[0], 1, api.X, 0, true)
	ask(t, x, b[0], 1, api.X, 1, true)
	ask(t, x, b[0], 2, api.X, 2, false)
	ask(t, x, a[1], 1, api.X, 3, true)
	ask(t, x, b[1], 1, api.X, 4, true)
	leave(t, x, 3)
	leave(t, x, 1, 2)
	ask(t, x, a[0], 3, api.X, 1, false)
	ask(t, x, b[0], 3, api.X, 3, false)
	ask(t, x, b[1], 3, api.X, 5, false)
	askNot(t, x, b[1], 4, api.X, api.ErrFull)
}
