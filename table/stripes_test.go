package table_test

import (
	"math/rand"
	"slices"
	"testing"

	"latchstring/api"
	"latchstring/table"
)

// alone is a table in which only what concerns one stripe happens, and its IDs by those of a table in which everything happens.
type alone struct {
	table *table.Table
	ids   map[int]int
}

// renamed is IDs as the table of one stripe has them.
func (x *alone) renamed(l []int) []int {
	var own []int
	for _, id := range l {
		own = append(own, x.ids[id])
	}
	return own
}

// heads is the heads of one stripe of a whole table, with IDs as the table of that stripe has them.
func (x *alone) heads(whole *table.Table, s int) []api.Head {
	l := slices.DeleteFunc(whole.Snapshot(), func(h api.Head) bool { return whole.Stripe(h.Name) != s })
	for _, h := range l {
		for i := range h.Queue {
			h.Queue[i].ID = x.ids[h.Queue[i].ID]
		}
	}
	return l
}

// concerned is the stripe that a call concerns, -1 if it is none.
func concerned(whole *table.Table, a act) int {
	if a.kind == asks {
		return whole.Stripe(a.name)
	}
	n, _, is := whole.Get(a.id)
	if !is {
		return -1
	}
	return whole.Stripe(n)
}

// follow does in the table of one stripe what returned d in the whole one, and reports whether it returns the same there, but for the IDs.
func (x *alone) follow(a act, d did) bool {
	a.id = x.ids[a.id]
	own := do(x.table, a)
	if a.kind == asks && d.e == api.OK {
		x.ids[d.id] = own.id
	}
	return own.is == d.is && own.e == d.e && slices.Equal(own.granted, x.renamed(d.granted))
}

// P12.3: what happens in one stripe is the same without all that happens in others, but for the IDs, and for requests that get none.
func TestP12_3StripesAreApart(t *testing.T) {
	for seed := range int64(60) {
		r := rand.New(rand.NewSource(seed))
		c := caps(2+r.Intn(4), 1+r.Intn(3), 6+r.Intn(30))
		l, whole := someNames(r, 12), made(t, c)
		var stripes []*alone
		for range c.Stripes {
			stripes = append(stripes, &alone{table: made(t, c), ids: map[int]int{}})
		}
		for i := range 500 {
			a := mix(r, l, 6, c.Requests)
			s := concerned(whole, a)
			_, requests := whole.Counts()
			d := do(whole, a)
			noID := d.e == api.ErrFull && requests == c.Requests
			if s >= 0 && !noID && !stripes[s].follow(a, d) {
				t.Fatalf("seed %d, call %d, %v: %v, which is not so in stripe %d alone", seed, i, a, d, s)
			}
			for s, x := range stripes {
				if got, want := x.heads(whole, s), x.table.Snapshot(); !sameHeads(got, want) {
					t.Fatalf("seed %d, call %d, %v: %v in stripe %d, alone %v", seed, i, a, got, s, want)
				}
			}
		}
	}
}

// P12.3: calls that concern other stripes leave a request as it is, and its ID with it.
func TestP12_3OthersLeaveARequestAlone(t *testing.T) {
	a, b := apart()
	x := made(t, caps(2, 1, 4))
	ask(t, x, a, 1, api.S, 0, true)
	ask(t, x, a, 2, api.X, 1, false)
	want := head(a, 1, has(0, 1, api.S), wants(1, 2, api.X, 1))
	for range 5 {
		ask(t, x, b, 1, api.S, 2, true)
		ask(t, x, b, 2, api.X, 3, false)
		askNot(t, x, b, 3, api.X, api.ErrFull)
		holds(t, x, want, head(b, 1, has(2, 1, api.S), wants(3, 2, api.X, 1)))
		abandon(t, x, 3)
		upgrade(t, x, 2, api.X, true, api.OK)
		hand(t, x, 2, 2, api.OK)
		holds(t, x, want, head(b, 1, has(2, 2, api.X)))
		leave(t, x, 2)
		holds(t, x, want)
	}
	leave(t, x, 0, 1)
	holds(t, x, head(a, 1, has(1, 2, api.X)))
}

// P12.3: what is held is compatible, whatever is asked for in many stripes.
func TestP12_3WhatIsHeldIsCompatible(t *testing.T) {
	for seed := range int64(20) {
		r := rand.New(rand.NewSource(seed))
		x := made(t, caps(1+r.Intn(mostStripes), mostHeads, mostRequests))
		l := someNames(r, 4+r.Intn(20))
		longest := 0
		for range 600 {
			a := mix(r, l, 24, 60)
			if a.mode > api.S && r.Intn(3) > 0 {
				a.mode = api.IS
			}
			do(x, a)
			compatible(t, x.All())
			longest = max(longest, len(x.All()))
		}
		if longest < 5 {
			t.Errorf("seed %d: at most %d locks", seed, longest)
		}
	}
}
