package bucket_test

import (
	"math/rand"
	"slices"
	"testing"

	"latchstring/api"
	"latchstring/bucket"
	"latchstring/mode"
	"latchstring/pool"
	"latchstring/queue"
)

// act is one call of a bucket.
type act struct {
	kind    int
	name    api.Name
	id, txn int
	mode    api.Mode
}

const (
	asks = iota
	upgrades
	leaves
	abandons
	hands
	kinds
)

// did is all that a call may return.
type did struct {
	id      int
	is      bool
	granted []int
	e       api.Errno
}

// locks is what a bucket and the plain one have in common.
type locks interface {
	Ask(n api.Name, txn int, m api.Mode) (int, bool, api.Errno)
	Upgrade(id int, m api.Mode) (bool, api.Errno)
	Leave(id int) ([]int, api.Errno)
	Abandon(id int) ([]int, api.Errno)
	Hand(id, txn int) api.Errno
}

func do(l locks, a act) (d did) {
	switch a.kind {
	case asks:
		d.id, d.is, d.e = l.Ask(a.name, a.txn, a.mode)
	case upgrades:
		d.is, d.e = l.Upgrade(a.id, a.mode)
	case leaves:
		d.granted, d.e = l.Leave(a.id)
	case abandons:
		d.granted, d.e = l.Abandon(a.id)
	case hands:
		d.e = l.Hand(a.id, a.txn)
	}
	return d
}

func same(a, b did) bool {
	return a.id == b.id && a.is == b.is && a.e == b.e && slices.Equal(a.granted, b.granted)
}

// both does a call of a bucket and of the plain one, and reports whether they agree.
func both(b *bucket.Bucket, ids *pool.Pool, p *plain, a act) bool {
	return same(do(b, a), do(p, a)) && sameHeads(b.Heads(), p.Heads()) && b.Len() == len(p.heads) && ids.Live() == p.live()
}

// sound holds the theorem, and what the terms say of all heads.
func sound(t *testing.T, b *bucket.Bucket, ids *pool.Pool) {
	t.Helper()
	var got, lent []int
	for _, h := range b.Heads() {
		if len(h.Queue) == 0 {
			t.Fatalf("%v is empty", h)
		}
		if queue.Check(h) != api.OK {
			t.Fatalf("%v is not valid", h)
		}
		if _, more := queue.Scan(h); len(more) > 0 {
			t.Fatalf("%v can be granted in %v", more, h)
		}
		for _, r := range h.Queue {
			got = append(got, r.ID)
			for _, s := range h.Queue {
				if r.ID != s.ID && !mode.Compatible(r.Mode, s.Mode) {
					t.Fatalf("%d and %d in %v", r.ID, s.ID, h)
				}
			}
		}
	}
	for id := range ids.Each() {
		lent = append(lent, id)
	}
	slices.Sort(got)
	if !slices.Equal(got, lent) {
		t.Fatalf("%v are lent, for the requests %v", lent, got)
	}
}

// looks holds all that can be asked without a change against the plain bucket.
func looks(t *testing.T, b *bucket.Bucket, p *plain, names []api.Name, txns, ids int) {
	t.Helper()
	for id := -1; id <= ids; id++ {
		n, r, is := b.Get(id)
		if m, s, has := p.Get(id); n != m || r != s || is != has {
			t.Fatalf("Get(%d) = %v, %v, %v, want %v, %v, %v", id, n, r, is, m, s, has)
		}
	}
	for _, n := range names {
		for txn := range txns {
			id, is := b.Find(n, txn)
			if other, has := p.Find(n, txn); id != other || is != has {
				t.Fatalf("Find(%v, %d) = %d, %v, want %d, %v", n, txn, id, is, other, has)
			}
		}
	}
}

// calls is all calls for two names, two transactions and some modes.
func calls() []act {
	var l []act
	for txn := 1; txn <= 2; txn++ {
		for _, n := range []api.Name{table(0), record(0, 3)} {
			for _, m := range []api.Mode{api.None, api.S, api.X} {
				l = append(l, act{kind: asks, name: n, txn: txn, mode: m})
			}
		}
		for id := range 3 {
			l = append(l, act{kind: hands, id: id, txn: txn})
		}
	}
	for id := range 3 {
		l = append(l, act{kind: leaves, id: id}, act{kind: abandons, id: id}, act{kind: upgrades, id: id, mode: api.X})
	}
	return l
}

// run does calls, and fails at the first after which a bucket and the plain one differ.
func run(t *testing.T, heads, numbers int, l []act) {
	t.Helper()
	b, ids := made(t, heads, numbers)
	p := newPlain(heads, numbers)
	for i, a := range l {
		if !both(b, ids, p, a) {
			t.Fatalf("%v: %v, want %v (with %d heads, %d numbers)", l[:i+1], b.Heads(), p.Heads(), heads, numbers)
		}
	}
	looks(t, b, p, []api.Name{table(0), record(0, 3), table(1)}, 4, numbers)
	sound(t, b, ids)
}

func TestShortSequencesAgainstThePlainBucket(t *testing.T) {
	all := calls()
	var sequences func(l []act)
	sequences = func(l []act) {
		if len(l) == 3 {
			run(t, 2, 3, l)
			run(t, 1, 2, l)
			return
		}
		for _, a := range all {
			sequences(append(slices.Clip(l), a))
		}
	}
	sequences(nil)
}

// mix is a random call; IDs and transactions are now and then ones that are not there.
func mix(r *rand.Rand, names []api.Name, txns, ids int) act {
	kind := r.Intn(kinds + 2)
	if kind >= kinds {
		kind = asks
	}
	return act{kind: kind, name: names[r.Intn(len(names))], id: r.Intn(ids+2) - 1, txn: r.Intn(txns), mode: api.Mode(r.Intn(8))}
}

// namesUpTo is as many names, in no order.
func namesUpTo(r *rand.Rand, n int) []api.Name {
	l := []api.Name{table(-1)}
	for i := 1; i < n; i++ {
		l = append(l, record(i%5, i/5-1))
	}
	r.Shuffle(len(l), func(i, j int) { l[i], l[j] = l[j], l[i] })
	return l
}

func TestRandomCallsAgainstThePlainBucket(t *testing.T) {
	for seed := range int64(60) {
		r := rand.New(rand.NewSource(seed))
		heads, numbers := 1+r.Intn(6), r.Intn(20)
		if seed%10 == 0 {
			heads, numbers = mostHeads, mostIDs
		}
		names, txns := namesUpTo(r, heads+2), 1+r.Intn(8)
		b, ids := made(t, heads, numbers)
		p := newPlain(heads, numbers)
		for i := range 600 {
			a := mix(r, names, txns, numbers)
			if !both(b, ids, p, a) {
				t.Fatalf("seed %d, call %d, %v: %v, want %v", seed, i, a, b.Heads(), p.Heads())
			}
			looks(t, b, p, names, txns, numbers)
			sound(t, b, ids)
		}
	}
}

// P11.4, with two buckets that share their IDs with somebody else.
func TestP11_4AsManyIDsAsRequests(t *testing.T) {
	for seed := range int64(20) {
		r := rand.New(rand.NewSource(seed))
		ids := newPool(t, 12)
		buckets := []*bucket.Bucket{newBucket(t, 3, ids), newBucket(t, 2, ids)}
		own := map[int]struct{}{}
		for range 600 {
			if id := r.Intn(12); r.Intn(6) > 0 {
				do(buckets[r.Intn(2)], mix(r, namesUpTo(r, 4), 4, 12))
			} else if _, is := own[id]; is {
				ids.Give(id)
				delete(own, id)
			} else if id, e := ids.Take(); e == api.OK {
				own[id] = struct{}{}
			}
			requests := len(own)
			for _, b := range buckets {
				for _, h := range b.Heads() {
					requests += len(h.Queue)
					if len(h.Queue) == 0 {
						t.Fatalf("seed %d: %v is empty", seed, h)
					}
				}
			}
			if ids.Live() != requests {
				t.Fatalf("seed %d: %d IDs are lent, for %d", seed, ids.Live(), requests)
			}
		}
	}
}
