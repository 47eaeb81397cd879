package table_test

import (
	"math/rand"
	"slices"
	"testing"

	"latchstring/api"
	"latchstring/mode"
	"latchstring/queue"
	"latchstring/table"
)

// act is one call of a table.
type act struct {
	kind    int
	name    api.Name
	id, txn int
	mode    api.Mode
}

const (
	asks = iota
	upgrades
	leaves
	abandons
	hands
	kinds
)

// did is all that a call may return.
type did struct {
	id      int
	is      bool
	granted []int
	e       api.Errno
}

// locks is what a table and the plain one have in common.
type locks interface {
	Ask(n api.Name, txn int, m api.Mode) (int, bool, api.Errno)
	Upgrade(id int, m api.Mode) (bool, api.Errno)
	Leave(id int) ([]int, api.Errno)
	Abandon(id int) ([]int, api.Errno)
	Hand(id, txn int) api.Errno
}

func do(l locks, a act) (d did) {
	switch a.kind {
	case asks:
		d.id, d.is, d.e = l.Ask(a.name, a.txn, a.mode)
	case upgrades:
		d.is, d.e = l.Upgrade(a.id, a.mode)
	case leaves:
		d.granted, d.e = l.Leave(a.id)
	case abandons:
		d.granted, d.e = l.Abandon(a.id)
	case hands:
		d.e = l.Hand(a.id, a.txn)
	}
	return d
}

func same(a, b did) bool {
	return a.id == b.id && a.is == b.is && a.e == b.e && slices.Equal(a.granted, b.granted)
}

// agree holds what is told without a change against the plain table.
func agree(t *testing.T, x *table.Table, p *plain, l []api.Name, txns int) {
	t.Helper()
	if got, want := x.Snapshot(), p.Snapshot(); !sameHeads(got, want) {
		t.Fatalf("Snapshot() = %v, want %v", got, want)
	}
	heldIs(t, x.All(), p.All()...)
	h, r := x.Counts()
	if heads, requests := p.Counts(); h != heads || r != requests {
		t.Fatalf("Counts() = %d, %d, want %d, %d", h, r, heads, requests)
	}
	for id := -1; id <= p.caps.Requests; id++ {
		n, r, is := x.Get(id)
		if m, s, has := p.Get(id); n != m || r != s || is != has {
			t.Fatalf("Get(%d) = %v, %v, %v, want %v, %v, %v", id, n, r, is, m, s, has)
		}
	}
	for txn := range txns {
		heldIs(t, x.Holds(txn), p.Holds(txn)...)
		for _, n := range l {
			id, is := x.Find(n, txn)
			if other, has := p.Find(n, txn); id != other || is != has {
				t.Fatalf("Find(%v, %d) = %d, %v, want %d, %v", n, txn, id, is, other, has)
			}
		}
	}
}

// sound holds what must always be so: heads that are valid, in which nothing can be granted, and no more of them than the caps say.
func sound(t *testing.T, x *table.Table) {
	t.Helper()
	heads, requests := map[int]int{}, 0
	for _, h := range x.Snapshot() {
		if queue.Check(h) != api.OK || len(h.Queue) == 0 {
			t.Fatalf("%v is not valid", h)
		}
		if _, more := queue.Scan(h); len(more) > 0 {
			t.Fatalf("%v can be granted in %v", more, h)
		}
		heads[x.Stripe(h.Name)]++
		requests += len(h.Queue)
	}
	for s, n := range heads {
		if s < 0 || s >= x.Caps().Stripes || n > x.Caps().Heads {
			t.Fatalf("%d heads in stripe %d of %v", n, s, x.Caps())
		}
	}
	if requests > x.Caps().Requests {
		t.Fatalf("%d requests in %v", requests, x.Caps())
	}
	compatible(t, x.All())
}

// compatible holds P12.3: what all hold of one name is compatible.
func compatible(t *testing.T, all []api.Held) {
	t.Helper()
	for i, a := range all {
		for _, b := range all[:i] {
			if a.Name == b.Name && (a.Txn == b.Txn || !mode.Compatible(a.Mode, b.Mode)) {
				t.Fatalf("%v and %v", a, b)
			}
		}
	}
}

// calls is all calls for three names, two of which have one stripe of two, two transactions, and some modes.
func calls(l []api.Name) []act {
	var all []act
	for txn := 1; txn <= 2; txn++ {
		for _, n := range l {
			all = append(all, act{kind: asks, name: n, txn: txn, mode: api.S}, act{kind: asks, name: n, txn: txn, mode: api.X})
		}
		for id := range 3 {
			all = append(all, act{kind: hands, id: id, txn: txn})
		}
	}
	for id := range 3 {
		all = append(all, act{kind: leaves, id: id}, act{kind: abandons, id: id}, act{kind: upgrades, id: id, mode: api.X})
	}
	return append(all, act{kind: upgrades, id: 3}, act{kind: asks, name: rec(0, 100), txn: 1, mode: api.S})
}

// run does calls, and fails at the first after which a table and the plain one differ.
func run(t *testing.T, c api.Caps, l []act, about []api.Name) {
	t.Helper()
	x, p := made(t, c), newPlain(c)
	for i, a := range l {
		if got, want := do(x, a), do(p, a); !same(got, want) {
			t.Fatalf("%v: %v, want %v (%v)", l[:i+1], got, want, c)
		}
	}
	agree(t, x, p, about, 4)
	sound(t, x)
}

func TestShortSequencesAgainstThePlainTable(t *testing.T) {
	about := append(namesIn(0, 2, 2), namesIn(1, 2, 1)...)
	all := calls(about)
	var sequences func(l []act)
	sequences = func(l []act) {
		if len(l) == 3 {
			run(t, caps(2, 1, 3), l, about)
			run(t, caps(2, 2, 2), l, about)
			return
		}
		for _, a := range all {
			sequences(append(slices.Clip(l), a))
		}
	}
	sequences(nil)
}

// mix is a random call; IDs and transactions are now and then ones that are not there, and names and modes not valid.
func mix(r *rand.Rand, l []api.Name, txns, ids int) act {
	kind := r.Intn(kinds + 2)
	if kind >= kinds {
		kind = asks
	}
	a := act{kind: kind, name: l[r.Intn(len(l))], id: r.Intn(ids+2) - 1, txn: r.Intn(txns), mode: api.Mode(r.Intn(8))}
	if r.Intn(30) == 0 {
		a.name = noNames()[r.Intn(len(noNames()))]
	}
	return a
}

// someNames is as many valid names, some of them close to each other.
func someNames(r *rand.Rand, n int) []api.Name {
	l := []api.Name{db()}
	for len(l) < n {
		x := rec(r.Intn(12), r.Intn(12)-1)
		if r.Intn(4) == 0 {
			x = rec(r.Intn(mostTables), r.Intn(mostTables))
		}
		if !slices.Contains(l, x) {
			l = append(l, x)
		}
	}
	return l
}

func TestRandomCallsAgainstThePlainTable(t *testing.T) {
	for seed := range int64(60) {
		r := rand.New(rand.NewSource(seed))
		c := caps(1+r.Intn(mostStripes), 1+r.Intn(4), 1+r.Intn(30))
		if seed%10 == 0 {
			c = caps(mostStripes, mostHeads, mostRequests)
		}
		l, txns := someNames(r, 2+r.Intn(12)), 1+r.Intn(8)
		x, p := made(t, c), newPlain(c)
		for i := range 400 {
			a := mix(r, l, txns, c.Requests)
			if got, want := do(x, a), do(p, a); !same(got, want) {
				t.Fatalf("seed %d, call %d, %v: %v, want %v", seed, i, a, got, want)
			}
			agree(t, x, p, l, txns)
			sound(t, x)
		}
		if x.Caps() != c {
			t.Errorf("Caps() = %v, want %v", x.Caps(), c)
		}
	}
}
