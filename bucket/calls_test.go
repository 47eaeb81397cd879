package bucket_test

import (
	"math"
	"testing"

	"latchstring/api"
	"latchstring/mode"
)

func TestP11_2Upgrade(t *testing.T) {
	for _, held := range modes() {
		for _, m := range modes() {
			b, ids := made(t, 1, 1)
			ask(t, b, table(0), 1, held, 0, true)
			upgrade(t, b, 0, m, true, api.OK)
			holds(t, b, ids, head(table(0), 0, has(0, 1, mode.Sup(held, m))))
		}
	}
}

func TestP11_2UpgradeThatWaits(t *testing.T) {
	b, ids := made(t, 1, 4)
	n := table(0)
	ask(t, b, n, 1, api.S, 0, true)
	ask(t, b, n, 2, api.S, 1, true)
	ask(t, b, n, 3, api.X, 2, false)
	upgrade(t, b, 1, api.IX, false, api.OK) // S and IX are SIX, which 1 does not let be
	upgrade(t, b, 0, api.IS, true, api.OK)  // it holds S already
	upgrade(t, b, 0, api.X, false, api.OK)
	holds(t, b, ids, head(n, 3, grows(0, 1, api.S, api.X, 3), grows(1, 2, api.S, api.SIX, 2), wants(2, 3, api.X, 1)))
	upgrade(t, b, 0, api.X, false, api.ErrState)
	upgrade(t, b, 1, api.IS, false, api.ErrState)
	upgrade(t, b, 2, api.IS, false, api.ErrState)
	holds(t, b, ids, head(n, 3, grows(0, 1, api.S, api.X, 3), grows(1, 2, api.S, api.SIX, 2), wants(2, 3, api.X, 1)))
}

func TestP11_2UpgradeToNoMode(t *testing.T) {
	b, ids := made(t, 1, 3)
	ask(t, b, table(0), 1, api.X, 0, true)
	ask(t, b, table(0), 2, api.X, 1, false)
	for _, m := range noModes() {
		for _, id := range append(noIDs(2), 0, 1) {
			upgrade(t, b, id, m, false, api.ErrArg) // not ErrNone, not ErrState
		}
	}
	holds(t, b, ids, head(table(0), 1, has(0, 1, api.X), wants(1, 2, api.X, 1)))
}

// notHere holds all calls for IDs that no request of a bucket has.
func notHere(t *testing.T, heads int) {
	t.Helper()
	b, ids := made(t, mostHeads, mostIDs-1)
	var want []api.Head
	for i := range heads {
		ask(t, b, table(i), i, api.X, i, true)
		want = append(want, head(table(i), 0, has(i, i, api.X)))
	}
	for _, id := range append(noIDs(mostIDs-1), heads, heads+1) {
		if id >= 0 && id < heads {
			continue
		}
		for _, m := range modes() {
			upgrade(t, b, id, m, false, api.ErrNone)
		}
		for _, m := range noModes() {
			upgrade(t, b, id, m, false, api.ErrArg)
		}
		leaveNot(t, b, id, api.ErrNone)
		abandonNot(t, b, id, api.ErrNone)
		hand(t, b, id, 0, api.ErrNone)
		hand(t, b, id, 9, api.ErrNone)
		hasNo(t, b, id)
	}
	holds(t, b, ids, want...)
}

func TestP11_2NotHere(t *testing.T) {
	for _, heads := range []int{0, 1, 2, 63} {
		notHere(t, heads)
	}
}

func TestP11_2Leave(t *testing.T) {
	b, ids := made(t, 1, 6)
	n := table(0)
	for i, m := range []api.Mode{api.X, api.S, api.IS, api.IX, api.S} {
		ask(t, b, n, i+1, m, i, i == 0)
	}
	leave(t, b, 0, 1, 2) // IX waits for S
	holds(t, b, ids, head(n, 4, has(1, 2, api.S), has(2, 3, api.IS), wants(3, 4, api.IX, 3), wants(4, 5, api.S, 4)))
	ask(t, b, n, 9, api.IS, 0, false)
	leave(t, b, 2)       // which makes no difference
	leave(t, b, 3, 4, 0) // one that waits
	holds(t, b, ids, head(n, 5, has(1, 2, api.S), has(4, 5, api.S), has(0, 9, api.IS)))
	leave(t, b, 1)
	leave(t, b, 4)
	leave(t, b, 0)
	holds(t, b, ids)
}

// Upgrades are granted first, in the order in which they began to wait.
func TestP11_2LeaveOfWhatUpgradesWaitFor(t *testing.T) {
	b, ids := made(t, 1, 8)
	n := record(1, 2)
	ask(t, b, n, 1, api.IS, 0, true)
	ask(t, b, n, 2, api.IS, 1, true)
	ask(t, b, n, 3, api.S, 2, true)
	ask(t, b, n, 4, api.IX, 3, false)
	ask(t, b, n, 5, api.IS, 4, false)
	upgrade(t, b, 1, api.IX, false, api.OK)
	upgrade(t, b, 0, api.IX, false, api.OK)
	leave(t, b, 2, 1, 0, 3, 4)
	holds(t, b, ids, head(n, 4, has(0, 1, api.IX), has(1, 2, api.IX), has(3, 4, api.IX), has(4, 5, api.IS)))
}

func TestP11_2LeaveOfTheLastOne(t *testing.T) {
	b, ids := made(t, 1, 2)
	ask(t, b, table(0), 1, api.S, 0, true)
	ask(t, b, table(0), 2, api.X, 1, false)
	leave(t, b, 0, 1)
	leave(t, b, 1)
	holds(t, b, ids)
	findsNo(t, b, table(0), 1)
	hasNo(t, b, 0)
	leaveNot(t, b, 1, api.ErrNone)
	// The next head of that name begins anew.
	ask(t, b, table(0), 2, api.X, 0, true)
	ask(t, b, table(0), 1, api.X, 1, false)
	holds(t, b, ids, head(table(0), 1, has(0, 2, api.X), wants(1, 1, api.X, 1)))
}

// What happens to one name leaves the others alone.
func TestP11_2LeaveOfOneName(t *testing.T) {
	b, ids := made(t, 3, 9)
	for i := range 3 {
		for j := range 3 {
			ask(t, b, table(i), j, api.X, 3*i+j, j == 0)
		}
	}
	of := func(i int) api.Head {
		return head(table(i), 2, has(3*i, 0, api.X), wants(3*i+1, 1, api.X, 1), wants(3*i+2, 2, api.X, 2))
	}
	holds(t, b, ids, of(0), of(1), of(2))
	leave(t, b, 3, 4)
	holds(t, b, ids, of(0), head(table(1), 2, has(4, 1, api.X), wants(5, 2, api.X, 2)), of(2))
	leave(t, b, 5)
	leave(t, b, 4)
	holds(t, b, ids, of(0), of(2))
}

func TestP11_2AbandonOfOneThatHolds(t *testing.T) {
	b, ids := made(t, 1, 4)
	n := table(0)
	ask(t, b, n, 1, api.X, 0, true)
	abandonNot(t, b, 0, api.ErrState)
	holds(t, b, ids, head(n, 0, has(0, 1, api.X)))
	leave(t, b, 0)
	ask(t, b, n, 1, api.S, 0, true)
	ask(t, b, n, 2, api.S, 1, true)
	upgrade(t, b, 0, api.X, false, api.OK)
	ask(t, b, n, 3, api.S, 2, false)
	ask(t, b, n, 4, api.IX, 3, false)
	abandonNot(t, b, 1, api.ErrState)
	abandon(t, b, 0, 2) // it goes on to hold S, and its wait is over
	holds(t, b, ids, head(n, 3, has(0, 1, api.S), has(1, 2, api.S), has(2, 3, api.S), wants(3, 4, api.IX, 3)))
	abandonNot(t, b, 0, api.ErrState)
	abandonNot(t, b, 2, api.ErrState)
}

func TestP11_2AbandonOfOneThatOnlyWaits(t *testing.T) {
	b, ids := made(t, 1, 4)
	n := table(0)
	ask(t, b, n, 1, api.S, 0, true)
	ask(t, b, n, 2, api.X, 1, false)
	ask(t, b, n, 3, api.S, 2, false)
	ask(t, b, n, 4, api.IS, 3, false)
	abandon(t, b, 1, 2, 3)
	holds(t, b, ids, head(n, 3, has(0, 1, api.S), has(2, 3, api.S), has(3, 4, api.IS)))
	abandonNot(t, b, 1, api.ErrNone)
	ask(t, b, n, 2, api.X, 1, false)
	abandon(t, b, 1)
	holds(t, b, ids, head(n, 4, has(0, 1, api.S), has(2, 3, api.S), has(3, 4, api.IS)))
}

func TestP11_2Hand(t *testing.T) {
	b, ids := made(t, 2, 4)
	n := table(0)
	ask(t, b, n, 1, api.X, 0, true)
	ask(t, b, n, 2, api.S, 1, false)
	ask(t, b, table(1), 3, api.X, 2, true)
	hand(t, b, 0, 2, api.ErrTwice)
	hand(t, b, 1, 1, api.ErrTwice) // not ErrState
	hand(t, b, 1, 2, api.ErrState) // also to itself
	hand(t, b, 1, 9, api.ErrState)
	hand(t, b, 3, 1, api.ErrNone) // not ErrTwice
	holds(t, b, ids, head(n, 1, has(0, 1, api.X), wants(1, 2, api.S, 1)), head(table(1), 0, has(2, 3, api.X)))
	hand(t, b, 0, 1, api.OK)
	hand(t, b, 0, 3, api.OK) // which has a request for another name
	holds(t, b, ids, head(n, 1, has(0, 3, api.X), wants(1, 2, api.S, 1)), head(table(1), 0, has(2, 3, api.X)))
	findsNo(t, b, n, 1)
	for _, txn := range []int{0, -1, math.MinInt, math.MaxInt, 1} {
		hand(t, b, 0, txn, api.OK)
		holds(t, b, ids, head(n, 1, has(0, txn, api.X), wants(1, 2, api.S, 1)), head(table(1), 0, has(2, 3, api.X)))
	}
}

func TestP11_2HandOfOneThatUpgrades(t *testing.T) {
	b, ids := made(t, 1, 2)
	ask(t, b, table(0), 1, api.S, 0, true)
	ask(t, b, table(0), 2, api.S, 1, true)
	upgrade(t, b, 0, api.X, false, api.OK)
	hand(t, b, 0, 9, api.ErrState)
	hand(t, b, 0, 2, api.ErrTwice)
	hand(t, b, 1, 9, api.OK)
	holds(t, b, ids, head(table(0), 1, grows(0, 1, api.S, api.X, 1), has(1, 9, api.S)))
}
