package table_test

import (
	"hash/fnv"
	"math"
	"slices"
	"strconv"
	"testing"

	"latchstring/api"
	"latchstring/queue"
	"latchstring/table"
)

// The tests write the limits as the chapters say them.
const (
	mostStripes  = 16
	mostHeads    = 64
	mostRequests = 128
	mostPool     = 8
	mostTables   = 100
)

func caps(stripes, heads, requests int) api.Caps {
	return api.Caps{Stripes: stripes, Heads: heads, Requests: requests, Pool: 2}
}

func made(t *testing.T, c api.Caps) *table.Table {
	t.Helper()
	x, e := table.New(c)
	if e != api.OK || x == nil {
		t.Fatalf("New(%v) = %v, %d", c, x, e)
	}
	return x
}

func db() api.Name { return api.Name{Table: -1, Record: -1} }

func tab(i int) api.Name { return api.Name{Table: i, Record: -1} }

func rec(i, j int) api.Name { return api.Name{Table: i, Record: j} }

// names is all valid names, ascending.
func names() []api.Name {
	l := []api.Name{db()}
	for i := range mostTables {
		for j := -1; j < mostTables; j++ {
			l = append(l, rec(i, j))
		}
	}
	return l
}

// noNames is names that are not valid; some are valid when cut to 32, 16 or 8 bits.
func noNames() []api.Name {
	return []api.Name{
		{Table: -1, Record: 0}, {Table: -1, Record: 5}, {Table: -1, Record: -2}, {Table: -2, Record: -1}, {Table: -2, Record: 0},
		{Table: 100, Record: -1}, {Table: 100, Record: 0}, {Table: 0, Record: 100}, {Table: 0, Record: -2}, {Table: 99, Record: 100},
		{Table: 256, Record: -1}, {Table: 256, Record: 0}, {Table: 0, Record: 256}, {Table: 255, Record: 255}, {Table: 1 << 16, Record: 0},
		{Table: 1 << 32, Record: -1}, {Table: 1 << 32, Record: 0}, {Table: 0, Record: 1 << 32}, {Table: 3, Record: 1<<32 + 7},
		{Table: math.MaxInt, Record: -1}, {Table: math.MinInt, Record: -1}, {Table: 0, Record: math.MaxInt}, {Table: 0, Record: math.MinInt},
		{Table: math.MaxInt32, Record: math.MinInt32}, {Table: math.MinInt, Record: math.MaxInt},
	}
}

// text is the text of a valid name after the chapter's words.
func text(n api.Name) string {
	switch {
	case n == db():
		return "db"
	case n.Record == -1:
		return "t" + strconv.Itoa(n.Table)
	}
	return "t" + strconv.Itoa(n.Table) + ".r" + strconv.Itoa(n.Record)
}

func valid(n api.Name) bool {
	return n == db() || n.Table >= 0 && n.Table < mostTables && n.Record >= -1 && n.Record < mostTables
}

// stripeOf is the stripe of a name after the chapter's words, -1 for one that is not valid.
func stripeOf(n api.Name, stripes int) int {
	if !valid(n) {
		return -1
	}
	h := fnv.New32a()
	h.Write([]byte(text(n)))
	return int(h.Sum32() % uint32(stripes))
}

// namesIn is the first valid names of one stripe, ascending.
func namesIn(stripe, stripes, n int) []api.Name {
	var l []api.Name
	for _, x := range names() {
		if len(l) < n && stripeOf(x, stripes) == stripe {
			l = append(l, x)
		}
	}
	return l
}

func modes() []api.Mode { return []api.Mode{api.IS, api.IX, api.S, api.SIX, api.U, api.X} }

// noModes is None and modes that there are not; some are modes when cut to 32, 16 or 8 bits.
func noModes() []api.Mode {
	return []api.Mode{api.None, -1, -6, 7, 8, 255, 256 + 3, 1<<16 + 3, 1<<32 + 3, math.MaxInt32, math.MinInt32, math.MaxInt, math.MinInt + 3}
}

// noIDs is what no pool lends; some are its numbers when cut to 32, 16 or 8 bits.
func noIDs() []int {
	return []int{-1, -2, 128, 129, 256, 257, 1 << 16, 1<<16 + 1, 1 << 32, 1<<32 + 1, math.MaxInt32, math.MinInt32, math.MaxInt, math.MinInt, math.MinInt + 1}
}

// has is a request that holds.
func has(id, txn int, m api.Mode) api.Request {
	return api.Request{ID: id, Txn: txn, Mode: m, Want: m}
}

// wants is a request that waits, and holds nothing.
func wants(id, txn int, m api.Mode, since int) api.Request {
	return api.Request{ID: id, Txn: txn, Want: m, Since: since}
}

// grows is a request that upgrades.
func grows(id, txn int, m, want api.Mode, since int) api.Request {
	return api.Request{ID: id, Txn: txn, Mode: m, Want: want, Since: since}
}

func head(n api.Name, waits int, l ...api.Request) api.Head {
	return api.Head{Name: n, Queue: l, Waits: waits}
}

func held(txn int, n api.Name, m api.Mode) api.Held {
	return api.Held{Txn: txn, Name: n, Mode: m}
}

// ask asks, with what that must return.
func ask(t *testing.T, x *table.Table, n api.Name, txn int, m api.Mode, id int, granted bool) {
	t.Helper()
	if got, is, e := x.Ask(n, txn, m); got != id || is != granted || e != api.OK {
		t.Errorf("Ask(%v, %d, %d) = %d, %v, %d, want %d, %v", n, txn, m, got, is, e, id, granted)
	}
}

// askNot asks for what must be an error.
func askNot(t *testing.T, x *table.Table, n api.Name, txn int, m api.Mode, err api.Errno) {
	t.Helper()
	if id, is, e := x.Ask(n, txn, m); id != 0 || is || e != err {
		t.Errorf("Ask(%v, %d, %d) = %d, %v, %d, want the error %d", n, txn, m, id, is, e, err)
	}
}

func upgrade(t *testing.T, x *table.Table, id int, m api.Mode, granted bool, err api.Errno) {
	t.Helper()
	if is, e := x.Upgrade(id, m); is != granted || e != err {
		t.Errorf("Upgrade(%d, %d) = %v, %d, want %v, %d", id, m, is, e, granted, err)
	}
}

// leave removes a request, with the IDs that must be granted.
func leave(t *testing.T, x *table.Table, id int, granted ...int) {
	t.Helper()
	if l, e := x.Leave(id); !slices.Equal(l, granted) || e != api.OK {
		t.Errorf("Leave(%d) = %v, %d, want %v", id, l, e, granted)
	}
}

// abandon ends a wait, with the IDs that must be granted.
func abandon(t *testing.T, x *table.Table, id int, granted ...int) {
	t.Helper()
	if l, e := x.Abandon(id); !slices.Equal(l, granted) || e != api.OK {
		t.Errorf("Abandon(%d) = %v, %d, want %v", id, l, e, granted)
	}
}

func leaveNot(t *testing.T, x *table.Table, id int, err api.Errno) {
	t.Helper()
	if l, e := x.Leave(id); len(l) != 0 || e != err {
		t.Errorf("Leave(%d) = %v, %d, want the error %d", id, l, e, err)
	}
}

func abandonNot(t *testing.T, x *table.Table, id int, err api.Errno) {
	t.Helper()
	if l, e := x.Abandon(id); len(l) != 0 || e != err {
		t.Errorf("Abandon(%d) = %v, %d, want the error %d", id, l, e, err)
	}
}

func hand(t *testing.T, x *table.Table, id, txn int, err api.Errno) {
	t.Helper()
	if e := x.Hand(id, txn); e != err {
		t.Errorf("Hand(%d, %d) = %d, want %d", id, txn, e, err)
	}
}

// gone holds all calls for an ID that no request has.
func gone(t *testing.T, x *table.Table, id int) {
	t.Helper()
	for _, m := range modes() {
		upgrade(t, x, id, m, false, api.ErrNone)
	}
	for _, m := range noModes() {
		upgrade(t, x, id, m, false, api.ErrArg)
	}
	leaveNot(t, x, id, api.ErrNone)
	abandonNot(t, x, id, api.ErrNone)
	hand(t, x, id, 0, api.ErrNone)
	hand(t, x, id, 9, api.ErrNone)
	hasNo(t, x, id)
}

// hasNo asks for a request that is not there.
func hasNo(t *testing.T, x *table.Table, id int) {
	t.Helper()
	if n, r, is := x.Get(id); n != (api.Name{}) || r != (api.Request{}) || is {
		t.Errorf("Get(%d) = %v, %v, %v", id, n, r, is)
	}
}

// findsNo asks for the request of a transaction that has none.
func findsNo(t *testing.T, x *table.Table, n api.Name, txn int) {
	t.Helper()
	if id, is := x.Find(n, txn); id != 0 || is {
		t.Errorf("Find(%v, %d) = %d, %v", n, txn, id, is)
	}
}

func sameHeads(a, b []api.Head) bool { return slices.EqualFunc(a, b, queue.Same) }

// holds holds what a table tells of heads and requests against the heads that it must have.
func holds(t *testing.T, x *table.Table, want ...api.Head) {
	t.Helper()
	if got := x.Snapshot(); !sameHeads(got, want) {
		t.Errorf("Snapshot() = %v, want %v", got, want)
	}
	requests := 0
	for _, h := range want {
		requests += len(h.Queue)
		for _, r := range h.Queue {
			if n, got, is := x.Get(r.ID); n != h.Name || got != r || !is {
				t.Errorf("Get(%d) = %v, %v, %v, want %v, %v", r.ID, n, got, is, h.Name, r)
			}
			if id, is := x.Find(h.Name, r.Txn); id != r.ID || !is {
				t.Errorf("Find(%v, %d) = %d, %v, want %d", h.Name, r.Txn, id, is, r.ID)
			}
		}
	}
	if h, r := x.Counts(); h != len(want) || r != requests {
		t.Errorf("Counts() = %d, %d, want %d, %d", h, r, len(want), requests)
	}
}
