package bucket_test

import (
	"math"
	"slices"
	"testing"

	"latchstring/api"
	"latchstring/bucket"
	"latchstring/pool"
	"latchstring/queue"
)

// The tests write the limits as the chapters say them.
const (
	mostHeads = 64
	mostIDs   = 128
)

func newPool(t *testing.T, n int) *pool.Pool {
	t.Helper()
	p, e := pool.New(n)
	if e != api.OK {
		t.Fatalf("pool.New(%d) = %d", n, e)
	}
	return p
}

func newBucket(t *testing.T, heads int, ids *pool.Pool) *bucket.Bucket {
	t.Helper()
	b, e := bucket.New(heads, ids)
	if e != api.OK || b == nil {
		t.Fatalf("New(%d) = %v, %d", heads, b, e)
	}
	return b
}

// made is a bucket, with a pool of its own.
func made(t *testing.T, heads, numbers int) (*bucket.Bucket, *pool.Pool) {
	t.Helper()
	ids := newPool(t, numbers)
	return newBucket(t, heads, ids), ids
}

func table(i int) api.Name { return api.Name{Table: i, Record: -1} }

func record(i, j int) api.Name { return api.Name{Table: i, Record: j} }

func modes() []api.Mode { return []api.Mode{api.IS, api.IX, api.S, api.SIX, api.U, api.X} }

// noModes is None and modes that there are not; some are modes when cut to 32, 16 or 8 bits.
func noModes() []api.Mode {
	return []api.Mode{api.None, -1, -3, -6, 7, 8, 127, 255, 256, 256 + 3, 1<<16 + 3, 1<<32 + 3, math.MaxInt32, math.MinInt32, math.MaxInt, math.MinInt, math.MinInt + 3}
}

// noIDs is what no pool of n numbers lends; some are its numbers when cut to 32, 16 or 8 bits.
func noIDs(n int) []int {
	return []int{-1, -2, n, n + 1, 128, 129, 256, 257, 1 << 16, 1<<16 + 1, 1 << 32, 1<<32 + 1, math.MaxInt32, math.MinInt32, math.MaxInt, math.MinInt, math.MinInt + 1}
}

// has is a request that holds.
func has(id, txn int, m api.Mode) api.Request {
	return api.Request{ID: id, Txn: txn, Mode: m, Want: m}
}

// wants is a request that waits, and holds nothing.
func wants(id, txn int, m api.Mode, since int) api.Request {
	return api.Request{ID: id, Txn: txn, Want: m, Since: since}
}

// grows is a request that upgrades.
func grows(id, txn int, m, want api.Mode, since int) api.Request {
	return api.Request{ID: id, Txn: txn, Mode: m, Want: want, Since: since}
}

func head(n api.Name, waits int, l ...api.Request) api.Head {
	return api.Head{Name: n, Queue: l, Waits: waits}
}

// ask asks, with what that must return.
func ask(t *testing.T, b *bucket.Bucket, n api.Name, txn int, m api.Mode, id int, granted bool) {
	t.Helper()
	if got, is, e := b.Ask(n, txn, m); got != id || is != granted || e != api.OK {
		t.Errorf("Ask(%v, %d, %d) = %d, %v, %d, want %d, %v", n, txn, m, got, is, e, id, granted)
	}
}

// askNot asks for what must be an error.
func askNot(t *testing.T, b *bucket.Bucket, n api.Name, txn int, m api.Mode, err api.Errno) {
	t.Helper()
	if id, is, e := b.Ask(n, txn, m); id != 0 || is || e != err {
		t.Errorf("Ask(%v, %d, %d) = %d, %v, %d, want the error %d", n, txn, m, id, is, e, err)
	}
}

// upgrade upgrades, with what that must return.
func upgrade(t *testing.T, b *bucket.Bucket, id int, m api.Mode, granted bool, err api.Errno) {
	t.Helper()
	if is, e := b.Upgrade(id, m); is != granted || e != err {
		t.Errorf("Upgrade(%d, %d) = %v, %d, want %v, %d", id, m, is, e, granted, err)
	}
}

// leave removes a request, with the IDs that must be granted.
func leave(t *testing.T, b *bucket.Bucket, id int, granted ...int) {
	t.Helper()
	if l, e := b.Leave(id); !slices.Equal(l, granted) || e != api.OK {
		t.Errorf("Leave(%d) = %v, %d, want %v", id, l, e, granted)
	}
}

// abandon ends a wait, with the IDs that must be granted.
func abandon(t *testing.T, b *bucket.Bucket, id int, granted ...int) {
	t.Helper()
	if l, e := b.Abandon(id); !slices.Equal(l, granted) || e != api.OK {
		t.Errorf("Abandon(%d) = %v, %d, want %v", id, l, e, granted)
	}
}

func leaveNot(t *testing.T, b *bucket.Bucket, id int, err api.Errno) {
	t.Helper()
	if l, e := b.Leave(id); len(l) != 0 || e != err {
		t.Errorf("Leave(%d) = %v, %d, want the error %d", id, l, e, err)
	}
}

func abandonNot(t *testing.T, b *bucket.Bucket, id int, err api.Errno) {
	t.Helper()
	if l, e := b.Abandon(id); len(l) != 0 || e != err {
		t.Errorf("Abandon(%d) = %v, %d, want the error %d", id, l, e, err)
	}
}

func hand(t *testing.T, b *bucket.Bucket, id, txn int, err api.Errno) {
	t.Helper()
	if e := b.Hand(id, txn); e != err {
		t.Errorf("Hand(%d, %d) = %d, want %d", id, txn, e, err)
	}
}

func sameHeads(a, b []api.Head) bool { return slices.EqualFunc(a, b, queue.Same) }

// holds holds all that a bucket tells, and how many IDs are lent, against the heads that it must have.
func holds(t *testing.T, b *bucket.Bucket, ids *pool.Pool, want ...api.Head) {
	t.Helper()
	if got := b.Heads(); !sameHeads(got, want) {
		t.Errorf("Heads() = %v, want %v", got, want)
	}
	if got := b.Len(); got != len(want) {
		t.Errorf("Len() = %d, want %d", got, len(want))
	}
	requests := 0
	for _, h := range want {
		requests += len(h.Queue)
		for _, r := range h.Queue {
			if n, got, is := b.Get(r.ID); n != h.Name || got != r || !is {
				t.Errorf("Get(%d) = %v, %v, %v, want %v, %v", r.ID, n, got, is, h.Name, r)
			}
			if id, is := b.Find(h.Name, r.Txn); id != r.ID || !is {
				t.Errorf("Find(%v, %d) = %d, %v, want %d", h.Name, r.Txn, id, is, r.ID)
			}
			if !ids.Has(r.ID) {
				t.Errorf("%d is not lent", r.ID)
			}
		}
	}
	if got := ids.Live(); got != requests {
		t.Errorf("%d IDs are lent, for %d requests", got, requests)
	}
}

// hasNo asks for a request that is not there.
func hasNo(t *testing.T, b *bucket.Bucket, id int) {
	t.Helper()
	if n, r, is := b.Get(id); n != (api.Name{}) || r != (api.Request{}) || is {
		t.Errorf("Get(%d) = %v, %v, %v", id, n, r, is)
	}
}

// findsNo asks for the request of a transaction that has none.
func findsNo(t *testing.T, b *bucket.Bucket, n api.Name, txn int) {
	t.Helper()
	if id, is := b.Find(n, txn); id != 0 || is {
		t.Errorf("Find(%v, %d) = %d, %v", n, txn, id, is)
	}
}
