package table

import (
	"testing"

	"latchstring/api"
)

// Buckets are kept for the IDs of requests alone: no answer tells those of others, so only a test within the package can.
func TestBucketsAreKeptForRequestsAlone(t *testing.T) {
	x, e := New(api.Caps{Stripes: 3, Heads: 2, Requests: 6})
	if e != api.OK {
		t.Fatal(e)
	}
	kept := func() {
		t.Helper()
		if _, requests := x.Counts(); len(x.having) != requests {
			t.Errorf("%d buckets, for %d requests", len(x.having), requests)
		}
		for id, b := range x.having {
			if _, _, is := b.Get(id); !is {
				t.Errorf("%d is not in its bucket", id)
			}
		}
	}
	db, n := api.Name{Table: -1, Record: -1}, api.Name{Table: 3, Record: 7}
	x.Ask(db, 1, api.S)
	x.Ask(db, 2, api.S)
	x.Ask(n, 1, api.X)
	x.Ask(n, 2, api.S)
	x.Ask(n, 2, api.S)                               // twice
	x.Ask(api.Name{Table: 3, Record: 100}, 3, api.S) // no name
	kept()
	x.Abandon(0) // which does not wait
	x.Leave(5)   // which is not there
	x.Upgrade(0, api.X)
	x.Abandon(0) // which goes on to hold S
	kept()
	x.Abandon(3)
	kept()
	for id := range 6 {
		x.Leave(id)
		kept()
	}
}
