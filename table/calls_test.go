package table_test

import (
	"math"
	"testing"

	"latchstring/api"
	"latchstring/mode"
)

// apart is a name of each of two stripes, ascending; their stripes descend.
func apart() (a, b api.Name) { return namesIn(1, 2, 1)[0], namesIn(0, 2, 1)[0] }

func TestP12_1Upgrade(t *testing.T) {
	for _, from := range modes() {
		for _, m := range modes() {
			x := made(t, caps(4, 1, 1))
			ask(t, x, tab(0), 1, from, 0, true)
			upgrade(t, x, 0, m, true, api.OK)
			holds(t, x, head(tab(0), 0, has(0, 1, mode.Sup(from, m))))
		}
	}
}

func TestP12_1UpgradeThatWaits(t *testing.T) {
	a, b := apart()
	x := made(t, caps(2, 1, 6))
	ask(t, x, a, 1, api.S, 0, true)
	ask(t, x, b, 1, api.S, 1, true)
	ask(t, x, b, 2, api.S, 2, true)
	ask(t, x, b, 3, api.X, 3, false)
	upgrade(t, x, 2, api.X, false, api.OK)
	upgrade(t, x, 0, api.X, true, api.OK)
	upgrade(t, x, 2, api.IS, false, api.ErrState)
	upgrade(t, x, 3, api.IS, false, api.ErrState)
	for _, m := range noModes() {
		for id := range 4 {
			upgrade(t, x, id, m, false, api.ErrArg) // not ErrState
		}
	}
	holds(t, x, head(a, 0, has(0, 1, api.X)), head(b, 2, has(1, 1, api.S), grows(2, 2, api.S, api.X, 2), wants(3, 3, api.X, 1)))
	leave(t, x, 1, 2)
	holds(t, x, head(a, 0, has(0, 1, api.X)), head(b, 2, has(2, 2, api.X), wants(3, 3, api.X, 1)))
}

// IDs that no request has, with requests in no, some or all stripes.
func TestP12_1OfNoRequest(t *testing.T) {
	for _, stripes := range []int{1, 2, 5, 16} {
		for _, requests := range []int{0, 1, 4, 40} {
			x := made(t, caps(stripes, mostHeads, mostRequests))
			l := names()
			for id := range requests {
				ask(t, x, l[id], 1, api.X, id, true)
			}
			for _, id := range append(noIDs(), requests, requests+1, 127) {
				gone(t, x, id)
			}
			if h, r := x.Counts(); h != requests || r != requests {
				t.Errorf("Counts() = %d, %d, want %d", h, r, requests)
			}
		}
	}
}

func TestP12_1Leave(t *testing.T) {
	a, b := apart()
	x := made(t, caps(2, 1, 9))
	for i, m := range []api.Mode{api.X, api.S, api.IS, api.IX} {
		ask(t, x, a, i+1, m, 2*i, i == 0)
		ask(t, x, b, i+1, m, 2*i+1, i == 0)
	}
	leave(t, x, 1, 3, 5) // IX waits for S
	holds(t, x,
		head(a, 3, has(0, 1, api.X), wants(2, 2, api.S, 1), wants(4, 3, api.IS, 2), wants(6, 4, api.IX, 3)),
		head(b, 3, has(3, 2, api.S), has(5, 3, api.IS), wants(7, 4, api.IX, 3)))
	gone(t, x, 1)
	leave(t, x, 6)
	leave(t, x, 3, 7)
	leave(t, x, 0, 2, 4)
	holds(t, x, head(a, 3, has(2, 2, api.S), has(4, 3, api.IS)), head(b, 3, has(5, 3, api.IS), has(7, 4, api.IX)))
	for _, id := range []int{2, 4, 5, 7} {
		leave(t, x, id)
		gone(t, x, id)
	}
	holds(t, x)
}

func TestP12_1Abandon(t *testing.T) {
	a, b := apart()
	x := made(t, caps(2, 1, 9))
	ask(t, x, a, 1, api.S, 0, true)
	ask(t, x, b, 1, api.S, 1, true)
	ask(t, x, b, 2, api.X, 2, false)
	ask(t, x, b, 3, api.S, 3, false)
	abandonNot(t, x, 0, api.ErrState)
	abandonNot(t, x, 1, api.ErrState)
	abandon(t, x, 2, 3)
	gone(t, x, 2)
	holds(t, x, head(a, 0, has(0, 1, api.S)), head(b, 2, has(1, 1, api.S), has(3, 3, api.S)))
}

// A request that upgrades keeps its ID when it does not wait any more.
func TestP12_1AbandonOfOneThatUpgrades(t *testing.T) {
	a, b := apart()
	x := made(t, caps(2, 1, 9))
	ask(t, x, a, 1, api.IS, 0, true)
	ask(t, x, b, 1, api.S, 1, true)
	ask(t, x, b, 2, api.S, 2, true)
	upgrade(t, x, 1, api.X, false, api.OK)
	ask(t, x, b, 3, api.IS, 3, false)
	abandon(t, x, 1, 3)
	holds(t, x, head(a, 0, has(0, 1, api.IS)), head(b, 2, has(1, 1, api.S), has(2, 2, api.S), has(3, 3, api.IS)))
	abandonNot(t, x, 1, api.ErrState)
	upgrade(t, x, 1, api.U, true, api.OK)
	hand(t, x, 1, 8, api.OK)
	leave(t, x, 1)
	gone(t, x, 1)
}

func TestP12_1Hand(t *testing.T) {
	a, b := apart()
	x := made(t, caps(2, 1, 9))
	ask(t, x, a, 1, api.X, 0, true)
	ask(t, x, b, 2, api.X, 1, true)
	ask(t, x, b, 3, api.S, 2, false)
	hand(t, x, 1, 3, api.ErrTwice)
	hand(t, x, 2, 2, api.ErrTwice) // not ErrState
	hand(t, x, 2, 3, api.ErrState) // also to itself
	hand(t, x, 2, 1, api.ErrState)
	hand(t, x, 1, 2, api.OK)
	hand(t, x, 1, 1, api.OK) // which has a request in another stripe
	holds(t, x, head(a, 0, has(0, 1, api.X)), head(b, 1, has(1, 1, api.X), wants(2, 3, api.S, 1)))
	findsNo(t, x, b, 2)
	for _, txn := range []int{0, -1, math.MinInt, math.MaxInt, 2} {
		hand(t, x, 1, txn, api.OK)
		holds(t, x, head(a, 0, has(0, 1, api.X)), head(b, 1, has(1, txn, api.X), wants(2, 3, api.S, 1)))
	}
}

// An ID that one stripe's request gave back is that of the other's next one.
func TestP12_1IDsThatAreLentAgain(t *testing.T) {
	a, b := apart()
	for _, swapped := range []bool{false, true} {
		if swapped {
			a, b = b, a
		}
		x := made(t, caps(2, 1, 3))
		ask(t, x, a, 1, api.S, 0, true)
		ask(t, x, a, 2, api.X, 1, false)
		abandon(t, x, 1)
		ask(t, x, b, 3, api.IX, 1, true)
		upgrade(t, x, 1, api.S, true, api.OK)
		hand(t, x, 1, 4, api.OK)
		abandonNot(t, x, 1, api.ErrState)
		if n, r, is := x.Get(1); n != b || r != has(1, 4, api.SIX) || !is {
			t.Errorf("Get(1) = %v, %v, %v", n, r, is)
		}
		leave(t, x, 0)
		gone(t, x, 0)
		ask(t, x, b, 5, api.X, 0, false)
		leave(t, x, 1, 0)
		gone(t, x, 1)
		ask(t, x, a, 5, api.X, 1, true)
		leave(t, x, 0)
		leave(t, x, 1)
		holds(t, x)
	}
}

// All IDs, lent to one stripe, and then to another one.
func TestP12_1AllIDsAreLentAgain(t *testing.T) {
	a, b := apart()
	x := made(t, caps(2, 1, mostRequests))
	for round, n := range []api.Name{a, b, a, b, b, a} {
		want := head(n, 0)
		for id := range mostRequests {
			ask(t, x, n, round+id, api.IS, id, true)
			want.Queue = append(want.Queue, has(id, round+id, api.IS))
		}
		holds(t, x, want)
		for id := range mostRequests {
			leave(t, x, id)
		}
		holds(t, x)
	}
}
