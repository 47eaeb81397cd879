package bucket_test

import (
	"math"
	"testing"

	"latchstring/api"
	"latchstring/bucket"
	"latchstring/pool"
)

func TestExamples(t *testing.T) {
	b, ids := made(t, 1, mostIDs)
	ask(t, b, table(0), 1, api.X, 0, true)
	askNot(t, b, table(1), 1, api.X, api.ErrFull)
	holds(t, b, ids, head(table(0), 0, has(0, 1, api.X)))
}

func TestP11_1New(t *testing.T) {
	for heads := 1; heads <= mostHeads; heads++ {
		b, ids := made(t, heads, mostIDs)
		holds(t, b, ids)
		var want []api.Head
		for i := range heads {
			ask(t, b, table(i), 1, api.X, i, true)
			want = append(want, head(table(i), 0, has(i, 1, api.X)))
		}
		askNot(t, b, table(heads), 1, api.X, api.ErrFull)
		holds(t, b, ids, want...)
	}
}

func TestP11_1NewOfOtherNumbers(t *testing.T) {
	ids := newPool(t, 3)
	for _, heads := range []int{0, -1, -2, -63, -64, -65, 65, 66, 127, 128, 255, 256, 257, 1<<16 + 1, 1 << 32, 1<<32 + 1, math.MaxInt32, math.MinInt32, math.MaxInt, math.MinInt, math.MinInt + 1} {
		for _, p := range []*pool.Pool{ids, nil, {}} {
			if b, e := bucket.New(heads, p); b != nil || e != api.ErrArg {
				t.Errorf("New(%d) = %v, %d", heads, b, e)
			}
		}
	}
	if ids.Live() != 0 {
		t.Error(ids.Live())
	}
}

func TestP11_1NewWithoutAPool(t *testing.T) {
	ids := newPool(t, 3)
	copied := *ids
	for _, p := range []*pool.Pool{nil, {}, &copied} {
		for _, heads := range []int{1, 2, 63, 64} {
			if b, e := bucket.New(heads, p); b != nil || e != api.ErrArg {
				t.Errorf("New(%d, %v) = %v, %d", heads, p, b, e)
			}
		}
	}
}

// New takes nothing from the pool, and gives nothing back; a pool from which nothing can be taken is one, too.
func TestP11_1NewLeavesThePool(t *testing.T) {
	ids := newPool(t, 2)
	ids.Take()
	newBucket(t, 1, ids)
	if ids.Live() != 1 || !ids.Has(0) {
		t.Error(ids.Live())
	}
	ids.Take()
	askNot(t, newBucket(t, 1, ids), table(0), 1, api.S, api.ErrFull)
	b, none := made(t, 1, 0)
	askNot(t, b, table(0), 1, api.S, api.ErrFull)
	holds(t, b, none)
}

func TestP11_1AskOfEachMode(t *testing.T) {
	for _, m := range modes() {
		b, ids := made(t, 1, 1)
		ask(t, b, record(3, 7), 5, m, 0, true)
		holds(t, b, ids, head(record(3, 7), 0, has(0, 5, m)))
	}
}

func TestP11_1AskOfNoMode(t *testing.T) {
	b, ids := made(t, 1, 2)
	for _, m := range noModes() {
		askNot(t, b, table(0), 1, m, api.ErrArg)
		holds(t, b, ids)
	}
	ask(t, b, table(0), 1, api.S, 0, true)
	want := head(table(0), 0, has(0, 1, api.S))
	for _, m := range noModes() {
		askNot(t, b, table(0), 2, m, api.ErrArg)
		askNot(t, b, table(0), 1, m, api.ErrArg) // not ErrTwice
		askNot(t, b, table(1), 2, m, api.ErrArg) // not ErrFull
		holds(t, b, ids, want)
	}
	ids.Take()
	for _, m := range noModes() {
		askNot(t, b, table(0), 2, m, api.ErrArg) // not ErrFull
	}
}

func TestP11_1AskTwice(t *testing.T) {
	b, ids := made(t, 2, 5)
	ask(t, b, table(0), 1, api.S, 0, true)
	ask(t, b, table(0), 2, api.X, 1, false)
	ask(t, b, table(1), 1, api.S, 2, true) // the same transaction, another name
	want := []api.Head{head(table(0), 1, has(0, 1, api.S), wants(1, 2, api.X, 1)), head(table(1), 0, has(2, 1, api.S))}
	for _, m := range modes() {
		askNot(t, b, table(0), 1, m, api.ErrTwice)
		askNot(t, b, table(0), 2, m, api.ErrTwice)
		askNot(t, b, table(1), 1, m, api.ErrTwice)
	}
	holds(t, b, ids, want...)
	ids.Take()
	ids.Take()
	askNot(t, b, table(0), 1, api.S, api.ErrTwice) // not ErrFull
	askNot(t, b, table(0), 3, api.S, api.ErrFull)
	leave(t, b, 1)
	ask(t, b, table(0), 2, api.IS, 1, true) // what left may ask again
}

func TestP11_1AskOfMoreNames(t *testing.T) {
	b, ids := made(t, 2, 5)
	ask(t, b, table(0), 1, api.S, 0, true)
	ask(t, b, table(1), 1, api.S, 1, true)
	two := []api.Head{head(table(0), 0, has(0, 1, api.S)), head(table(1), 0, has(1, 1, api.S))}
	for _, n := range []api.Name{table(2), record(0, 0), record(1, 1), table(-1), {}} {
		askNot(t, b, n, 1, api.S, api.ErrFull)
		askNot(t, b, n, 9, api.X, api.ErrFull)
	}
	holds(t, b, ids, two...)
	ask(t, b, table(1), 2, api.IS, 2, true) // a name that is there
	leave(t, b, 0)
	ask(t, b, table(2), 3, api.U, 0, true) // in the place of one that is gone
	askNot(t, b, table(0), 1, api.S, api.ErrFull)
	holds(t, b, ids, head(table(1), 0, has(1, 1, api.S), has(2, 2, api.IS)), head(table(2), 0, has(0, 3, api.U)))
}

func TestP11_1AskOfAnExhaustedPool(t *testing.T) {
	b, ids := made(t, 4, 2)
	ask(t, b, table(0), 1, api.S, 0, true)
	ask(t, b, table(1), 1, api.S, 1, true)
	for range 3 {
		askNot(t, b, table(0), 2, api.S, api.ErrFull)
		askNot(t, b, table(2), 2, api.S, api.ErrFull)
	}
	holds(t, b, ids, head(table(0), 0, has(0, 1, api.S)), head(table(1), 0, has(1, 1, api.S)))
	leave(t, b, 1)
	ask(t, b, table(2), 2, api.S, 1, true)
	holds(t, b, ids, head(table(0), 0, has(0, 1, api.S)), head(table(2), 0, has(1, 2, api.S)))
}

// All IDs that there can be, in one head.
func TestP11_1AskForAllIDs(t *testing.T) {
	b, ids := made(t, 1, mostIDs)
	want := head(table(0), 0)
	for i := range mostIDs {
		ask(t, b, table(0), i, api.IS, i, true)
		want.Queue = append(want.Queue, has(i, i, api.IS))
	}
	askNot(t, b, table(0), -1, api.IS, api.ErrFull)
	askNot(t, b, table(0), 127, api.IS, api.ErrTwice)
	holds(t, b, ids, want)
	leave(t, b, 0)
	ask(t, b, table(0), -1, api.IS, 0, true)
	want.Queue = append(want.Queue[1:], has(0, -1, api.IS))
	holds(t, b, ids, want)
}

// One that does not get an ID leaves no head behind, which would take the place of another one.
func TestP11_1AskWithoutAnIDLeavesNoHead(t *testing.T) {
	b, ids := made(t, 1, 1)
	ids.Take()
	askNot(t, b, table(0), 1, api.S, api.ErrFull)
	if b.Len() != 0 || len(b.Heads()) != 0 {
		t.Error(b.Heads())
	}
	ids.Give(0)
	ask(t, b, table(1), 1, api.S, 0, true)
	holds(t, b, ids, head(table(1), 0, has(0, 1, api.S)))
}

// Any numbers are names and transactions here.
func TestP11_1AskOfAnyNameAndTransaction(t *testing.T) {
	b, ids := made(t, mostHeads, mostIDs)
	names := []api.Name{{Table: math.MinInt, Record: math.MaxInt}, {Table: -5, Record: 200}, {Table: -1, Record: -1}, {}, {Table: 0, Record: 100}, {Table: 1 << 32, Record: 0}, {Table: math.MaxInt, Record: math.MinInt}}
	txns := []int{0, -1, math.MaxInt, math.MinInt, 1 << 32, 1<<32 + 1}
	id := 0
	var want []api.Head
	for _, n := range names {
		h := head(n, 0)
		for _, txn := range txns {
			ask(t, b, n, txn, api.IS, id, true)
			h.Queue = append(h.Queue, has(id, txn, api.IS))
			id++
		}
		want = append(want, h)
	}
	holds(t, b, ids, want...)
}

func TestP11_1AskInOrder(t *testing.T) {
	b, ids := made(t, 2, 8)
	n := record(3, 7)
	ask(t, b, n, 1, api.S, 0, true)
	ask(t, b, n, 2, api.IS, 1, true)
	ask(t, b, n, 3, api.X, 2, false)
	ask(t, b, n, 4, api.S, 3, false)           // waits behind the X
	ask(t, b, record(3, 8), 4, api.X, 4, true) // another name has another queue
	holds(t, b, ids,
		head(n, 2, has(0, 1, api.S), has(1, 2, api.IS), wants(2, 3, api.X, 1), wants(3, 4, api.S, 2)),
		head(record(3, 8), 0, has(4, 4, api.X)))
}

func TestP11_1SharedIDs(t *testing.T) {
	ids := newPool(t, 6)
	a, b := newBucket(t, 2, ids), newBucket(t, 2, ids)
	ask(t, a, table(0), 1, api.X, 0, true)
	ask(t, b, table(0), 1, api.X, 1, true) // the same name in another bucket is apart
	ids.Take()
	ask(t, a, table(0), 2, api.X, 3, false)
	ask(t, b, table(1), 2, api.X, 4, true)
	ask(t, a, table(1), 2, api.X, 5, true)
	askNot(t, a, table(0), 3, api.S, api.ErrFull)
	askNot(t, b, table(0), 3, api.S, api.ErrFull)
	for _, id := range []int{1, 2, 4} {
		hasNo(t, a, id)
		leaveNot(t, a, id, api.ErrNone)
		abandonNot(t, a, id, api.ErrNone)
		hand(t, a, id, 9, api.ErrNone)
		upgrade(t, a, id, api.X, false, api.ErrNone)
	}
	leave(t, b, 1)
	ask(t, a, table(0), 3, api.S, 1, false)
	leave(t, a, 0, 3)
	leave(t, a, 3, 1)
	if ids.Live() != 4 || a.Len() != 2 || b.Len() != 1 {
		t.Error(ids.Live(), a.Len(), b.Len())
	}
}

// Somebody else gives an ID back that a request here has. No more is promised then than that all calls return; nothing is asked for under an ID that its head has already.
func TestSomebodyElseGivesAnIDBack(t *testing.T) {
	b, ids := made(t, 2, 3)
	ask(t, b, record(0, 0), 1, api.S, 0, true)
	ask(t, b, table(1), 1, api.S, 1, true)
	ids.Give(1)
	want := b.Heads()
	askNot(t, b, table(1), 2, api.S, api.ErrTwice)
	if got := b.Heads(); !sameHeads(got, want) || ids.Live() != 1 {
		t.Error(got, ids.Live())
	}
	leave(t, b, 1)
	holds(t, b, ids, head(record(0, 0), 0, has(0, 1, api.S)))
}
