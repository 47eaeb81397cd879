package queue_test

import (
	"math"
	"math/rand"
	"slices"
	"testing"

	"latchstring/api"
	"latchstring/queue"
)

// asks holds Ask against what it must return.
func asks(t *testing.T, h api.Head, id, txn int, m api.Mode, want api.Head, granted bool) {
	t.Helper()
	got, is, e := queue.Ask(h, id, txn, m)
	if e != api.OK || is != granted || !plainSame(got, want) {
		t.Errorf("%v: Ask(%d, %d, %d) = %v, %v, %d, want %v, %v", h, id, txn, m, got, is, e, want, granted)
	}
}

func asksInVain(t *testing.T, h api.Head, id, txn int, m api.Mode, err api.Errno) {
	t.Helper()
	got, is, e := queue.Ask(h, id, txn, m)
	if e != err || is || !plainSame(got, api.Head{}) || got.Queue != nil {
		t.Errorf("%v: Ask(%d, %d, %d) = %v, %v, %d, want %d", h, id, txn, m, got, is, e, err)
	}
}

func TestP9_2Ask(t *testing.T) {
	asks(t, api.Head{}, 0, 0, api.X, api.Head{Queue: []api.Request{has(0, 0, api.X)}}, true)
	asks(t, head(5), 9, 3, api.S, head(5, has(9, 3, api.S)), true)
	asks(t, head(5, has(9, 3, api.S)), 1, 4, api.U, head(5, has(9, 3, api.S), has(1, 4, api.U)), true)
	asks(t, head(5, has(9, 3, api.S)), 1, 4, api.X, head(6, has(9, 3, api.S), wants(1, 4, api.X, 6)), false)
	asks(t, head(0, has(9, 3, api.X)), 1, 4, api.IS, head(1, has(9, 3, api.X), wants(1, 4, api.IS, 1)), false)
}

func TestP9_2AskForEachPairOfModes(t *testing.T) {
	for _, a := range lockable() {
		for _, b := range lockable() {
			h := head(2, has(1, 1, a))
			if plainValid(head(2, has(1, 1, a), has(2, 2, b))) {
				asks(t, h, 2, 2, b, head(2, has(1, 1, a), has(2, 2, b)), true)
			} else {
				asks(t, h, 2, 2, b, head(3, has(1, 1, a), wants(2, 2, b, 3)), false)
			}
		}
	}
}

// One of those that hold is enough, wherever it stands.
func TestP9_2AskLooksAtAllThatHold(t *testing.T) {
	for place := range 5 {
		var l []api.Request
		for i := range 5 {
			l = append(l, has(i, i, api.IS))
		}
		l[place] = has(place, place, api.IX)
		asks(t, head(0, l...), 9, 9, api.S, head(1, append(slices.Clip(l), wants(9, 9, api.S, 1))...), false)
		asks(t, head(0, l...), 9, 9, api.IX, head(0, append(slices.Clip(l), has(9, 9, api.IX))...), true)
	}
}

// Whoever waits or upgrades is not overtaken, even by one that is compatible with all, and even if it could be granted itself.
func TestP9_2AskBehindOthers(t *testing.T) {
	h := head(4, has(1, 1, api.S), wants(2, 2, api.X, 4))
	asks(t, h, 3, 3, api.IS, head(5, has(1, 1, api.S), wants(2, 2, api.X, 4), wants(3, 3, api.IS, 5)), false)
	h = head(4, has(1, 1, api.S), wants(2, 2, api.S, 2))
	asks(t, h, 3, 3, api.S, head(5, has(1, 1, api.S), wants(2, 2, api.S, 2), wants(3, 3, api.S, 5)), false)
	h = head(4, grows(1, 1, api.IS, api.IX, 4))
	asks(t, h, 3, 3, api.IS, head(5, grows(1, 1, api.IS, api.IX, 4), wants(3, 3, api.IS, 5)), false)
	h = head(1, wants(2, 2, api.S, 1))
	asks(t, h, 3, 3, api.S, head(2, wants(2, 2, api.S, 1), wants(3, 3, api.S, 2)), false)
}

func TestP9_2AskByAnyTxn(t *testing.T) {
	for _, txn := range []int{-1, math.MinInt, 0, math.MaxInt} {
		asks(t, head(0), 0, txn, api.S, head(0, has(0, txn, api.S)), true)
		asksInVain(t, head(0, has(0, txn, api.S)), 1, txn, api.S, api.ErrTwice)
	}
	asks(t, head(0), math.MaxInt, 1, api.S, head(0, has(math.MaxInt, 1, api.S)), true)
}

func TestP9_2ErrorsOfAsk(t *testing.T) {
	h := head(2, has(1, 11, api.S), grows(2, 12, api.S, api.X, 1), wants(3, 13, api.X, 2))
	for _, id := range []int{-1, -2, math.MinInt} {
		asksInVain(t, h, id, 20, api.S, api.ErrArg)
		asksInVain(t, h, id, 11, api.S, api.ErrArg)
		asksInVain(t, h, id, 11, api.None, api.ErrArg)
	}
	for _, m := range notLockable() {
		asksInVain(t, h, 4, 20, m, api.ErrArg)
		asksInVain(t, h, 1, 11, m, api.ErrArg)
		asksInVain(t, api.Head{}, 0, 0, m, api.ErrArg)
	}
	for id := 1; id <= 3; id++ {
		asksInVain(t, h, id, 20, api.IS, api.ErrTwice)
		asksInVain(t, h, 4, 10+id, api.IS, api.ErrTwice)
		asksInVain(t, h, id, 10+id, api.IS, api.ErrTwice)
		asksInVain(t, h, id, 11+id%3, api.IS, api.ErrTwice)
	}
}

// The waits may come to one more than a valid head has; a request that does not wait changes nothing there.
func TestP9_2AskAtTheMostWaits(t *testing.T) {
	h := head(1<<62, has(1, 1, api.S))
	asks(t, h, 2, 2, api.S, head(1<<62, has(1, 1, api.S), has(2, 2, api.S)), true)
	g, granted, e := queue.Ask(h, 2, 2, api.X)
	if granted || e != api.OK || g.Waits != 1<<62+1 || g.Queue[1].Since != 1<<62+1 {
		t.Errorf("Ask = %v, %v, %d", g, granted, e)
	}
	check(t, "too many waits", g, api.ErrArg)
	check(t, "one fewer", head(1<<62-1, has(1, 1, api.S)), api.OK)
	g, _, _ = queue.Ask(head(1<<62-1, has(1, 1, api.S)), 2, 2, api.X)
	check(t, "the most waits", g, api.OK)
}

func raises(t *testing.T, h api.Head, id int, m api.Mode, want api.Head, granted bool) {
	t.Helper()
	got, is, e := queue.Upgrade(h, id, m)
	if e != api.OK || is != granted || !plainSame(got, want) {
		t.Errorf("%v: Upgrade(%d, %d) = %v, %v, %d, want %v, %v", h, id, m, got, is, e, want, granted)
	}
}

func raisesInVain(t *testing.T, h api.Head, id int, m api.Mode, err api.Errno) {
	t.Helper()
	got, is, e := queue.Upgrade(h, id, m)
	if e != err || is || !plainSame(got, api.Head{}) || got.Queue != nil {
		t.Errorf("%v: Upgrade(%d, %d) = %v, %v, %d, want %d", h, id, m, got, is, e, err)
	}
}

func TestP9_3Upgrade(t *testing.T) {
	alone := head(3, has(1, 1, api.S))
	raises(t, alone, 1, api.X, head(3, has(1, 1, api.X)), true)
	raises(t, alone, 1, api.IX, head(3, has(1, 1, api.SIX)), true)
	raises(t, head(3, has(1, 1, api.U)), 1, api.IX, head(3, has(1, 1, api.X)), true)
	two := head(3, has(2, 2, api.S), has(1, 1, api.S), has(3, 3, api.IS))
	raises(t, two, 1, api.U, head(3, has(2, 2, api.S), has(1, 1, api.U), has(3, 3, api.IS)), true)
	raises(t, two, 1, api.X, head(4, has(2, 2, api.S), grows(1, 1, api.S, api.X, 4), has(3, 3, api.IS)), false)
	raises(t, two, 1, api.IX, head(4, has(2, 2, api.S), grows(1, 1, api.S, api.SIX, 4), has(3, 3, api.IS)), false)
	raises(t, two, 3, api.U, head(3, has(2, 2, api.S), has(1, 1, api.S), has(3, 3, api.U)), true)
}

// What is covered already holds, whoever else holds, waits or upgrades.
func TestP9_3UpgradeToWhatIsCovered(t *testing.T) {
	for _, h := range []api.Head{
		head(5, has(1, 1, api.U)),
		head(5, has(2, 2, api.S), has(1, 1, api.U), wants(3, 3, api.X, 5)),
		head(5, has(1, 1, api.U), grows(2, 2, api.S, api.X, 5), wants(3, 3, api.X, 2)),
	} {
		for _, m := range []api.Mode{api.IS, api.S, api.U} {
			raises(t, h, 1, m, h, true)
		}
	}
	raises(t, head(1, has(1, 1, api.X), wants(2, 2, api.S, 1)), 1, api.SIX, head(1, has(1, 1, api.X), wants(2, 2, api.S, 1)), true)
	raises(t, head(0, has(1, 1, api.SIX)), 1, api.IX, head(0, has(1, 1, api.SIX)), true)
}

// While another one upgrades, nothing more is granted, even if all that hold are compatible.
func TestP9_3UpgradeWhileAnotherUpgrades(t *testing.T) {
	h := head(7, has(1, 1, api.IS), grows(2, 2, api.S, api.X, 3))
	raises(t, h, 1, api.S, head(8, grows(1, 1, api.IS, api.S, 8), grows(2, 2, api.S, api.X, 3)), false)
	// Even if that one could be granted.
	h = head(7, grows(2, 2, api.IS, api.S, 7), has(1, 1, api.IS))
	raises(t, h, 1, api.S, head(8, grows(2, 2, api.IS, api.S, 7), grows(1, 1, api.IS, api.S, 8)), false)
}

func TestP9_3UpgradeAheadOfThoseThatWait(t *testing.T) {
	h := head(2, has(1, 1, api.S), wants(2, 2, api.X, 1), wants(3, 3, api.IS, 2))
	raises(t, h, 1, api.X, head(2, has(1, 1, api.X), wants(2, 2, api.X, 1), wants(3, 3, api.IS, 2)), true)
	h = head(2, has(1, 1, api.S), has(4, 4, api.S), wants(2, 2, api.X, 2))
	raises(t, h, 1, api.X, head(3, grows(1, 1, api.S, api.X, 3), has(4, 4, api.S), wants(2, 2, api.X, 2)), false)
}

func TestP9_3ErrorsOfUpgrade(t *testing.T) {
	h := head(2, has(1, 11, api.S), grows(2, 12, api.S, api.X, 1), wants(3, 13, api.X, 2))
	for _, m := range notLockable() {
		for id := -1; id <= 4; id++ {
			raisesInVain(t, h, id, m, api.ErrArg)
		}
		raisesInVain(t, api.Head{}, 0, m, api.ErrArg)
	}
	for _, m := range lockable() {
		for _, id := range []int{0, 4, 11, -1, math.MinInt, math.MaxInt} {
			raisesInVain(t, h, id, m, api.ErrNone)
		}
		raisesInVain(t, api.Head{}, 0, m, api.ErrNone)
		raisesInVain(t, h, 2, m, api.ErrState)
		raisesInVain(t, h, 3, m, api.ErrState)
	}
}

func TestP9_3UpgradeAtTheMostWaits(t *testing.T) {
	h := head(1<<62, has(1, 1, api.S), has(2, 2, api.S))
	raises(t, h, 1, api.U, head(1<<62, has(1, 1, api.U), has(2, 2, api.S)), true)
	raises(t, h, 1, api.X, head(1<<62+1, grows(1, 1, api.S, api.X, 1<<62+1), has(2, 2, api.S)), false)
}

// mixed is a head in which everything is: 0 and 4 hold, 1 and 3 upgrade, 2 and 5 wait.
func mixed() api.Head {
	return head(9, has(0, 10, api.S), grows(1, 5, api.S, api.X, 7), grows(3, -3, api.IS, api.SIX, 2), has(4, 14, api.S),
		wants(2, 12, api.S, 3), wants(5, 1, api.U, 9))
}

func TestP9_4Leave(t *testing.T) {
	for i, r := range mixed().Queue {
		got, e := queue.Leave(mixed(), r.ID)
		if want := head(9, slices.Delete(mixed().Queue, i, i+1)...); e != api.OK || !plainSame(got, want) {
			t.Errorf("Leave(%d) = %v, %d, want %v", r.ID, got, e, want)
		}
	}
	if got, e := queue.Leave(head(3, has(1, 1, api.X)), 1); e != api.OK || !plainSame(got, head(3)) {
		t.Errorf("Leave of the only request = %v, %d", got, e)
	}
	for _, id := range []int{6, 10, 14, -1, -3, math.MinInt, math.MaxInt} {
		if got, e := queue.Leave(mixed(), id); e != api.ErrNone || !plainSame(got, api.Head{}) {
			t.Errorf("Leave(%d) = %v, %d", id, got, e)
		}
	}
	if got, e := queue.Leave(api.Head{}, 0); e != api.ErrNone || !plainSame(got, api.Head{}) {
		t.Errorf("Leave of an empty head = %v, %d", got, e)
	}
}

func TestP9_4Abandon(t *testing.T) {
	h := mixed()
	h.Queue[1] = has(1, 5, api.S)
	if got, e := queue.Abandon(mixed(), 1); e != api.OK || !plainSame(got, h) {
		t.Errorf("Abandon of an upgrade = %v, %d", got, e)
	}
	for i, r := range mixed().Queue {
		got, e := queue.Abandon(mixed(), r.ID)
		switch r.ID {
		case 0, 4:
			if e != api.ErrState || !plainSame(got, api.Head{}) {
				t.Errorf("Abandon(%d) = %v, %d", r.ID, got, e)
			}
		case 2, 5:
			if want := head(9, slices.Delete(mixed().Queue, i, i+1)...); e != api.OK || !plainSame(got, want) {
				t.Errorf("Abandon(%d) = %v, %d, want %v", r.ID, got, e, want)
			}
		}
	}
	for _, id := range []int{6, 10, -1, -3, math.MinInt, math.MaxInt} {
		if got, e := queue.Abandon(mixed(), id); e != api.ErrNone || !plainSame(got, api.Head{}) {
			t.Errorf("Abandon(%d) = %v, %d", id, got, e)
		}
	}
}

// What was abandoned still holds: it can be upgraded again, and stands in the way of others.
func TestP9_4AbandonKeepsWhatIsHeld(t *testing.T) {
	h := head(2, grows(1, 1, api.S, api.X, 1), has(2, 2, api.S), wants(3, 3, api.X, 2))
	h, _ = queue.Abandon(h, 1)
	if got := queue.Mode(h, 1); got != api.S {
		t.Errorf("after Abandon, Mode = %d", got)
	}
	if got := queue.Blockers(h, 3); !slices.Equal(got, []int{1, 2}) {
		t.Errorf("after Abandon, Blockers = %v", got)
	}
	raises(t, h, 1, api.X, head(3, grows(1, 1, api.S, api.X, 3), has(2, 2, api.S), wants(3, 3, api.X, 2)), false)
}

func scans(t *testing.T, h, want api.Head, ids ...int) {
	t.Helper()
	got, granted := queue.Scan(h)
	if !plainSame(got, want) || !slices.Equal(granted, ids) {
		t.Errorf("%v: Scan = %v, %v, want %v, %v", h, got, granted, want, ids)
	}
}

func TestP9_4ScanOfNothing(t *testing.T) {
	scans(t, api.Head{}, api.Head{})
	scans(t, head(4), head(4))
	for _, h := range []api.Head{
		head(3, has(1, 1, api.S), has(2, 2, api.S)),
		head(3, has(1, 1, api.S), wants(2, 2, api.X, 1), wants(3, 3, api.S, 2)),
		head(3, grows(1, 1, api.S, api.X, 3), has(2, 2, api.S), wants(3, 3, api.S, 2)),
		head(3, grows(1, 1, api.S, api.X, 3), grows(2, 2, api.S, api.X, 1)),
		mixed(),
	} {
		scans(t, h, h)
	}
}

// Several are granted in turn, up to the first that can't be; they stand behind those that held before.
func TestP9_4ScanInTurn(t *testing.T) {
	scans(t, head(9, has(7, 7, api.IS), wants(5, 5, api.S, 2), wants(3, 3, api.IS, 4), wants(4, 4, api.U, 5), wants(1, 1, api.X, 6), wants(2, 2, api.IS, 9)),
		head(9, has(7, 7, api.IS), has(5, 5, api.S), has(3, 3, api.IS), has(4, 4, api.U), wants(1, 1, api.X, 6), wants(2, 2, api.IS, 9)), 5, 3, 4)
	// What is granted counts for who comes next.
	scans(t, head(3, wants(1, 1, api.U, 1), wants(2, 2, api.U, 2), wants(3, 3, api.S, 3)),
		head(3, has(1, 1, api.U), wants(2, 2, api.U, 2), wants(3, 3, api.S, 3)), 1)
}

func TestP9_4ScanOfUpgrades(t *testing.T) {
	// The smallest Since comes first, wherever it stands, and each one stays at its place.
	scans(t, head(9, grows(1, 1, api.IS, api.IX, 8), grows(2, 2, api.IS, api.IX, 3), has(3, 3, api.IS), grows(4, 4, api.IS, api.IX, 5)),
		head(9, has(1, 1, api.IX), has(2, 2, api.IX), has(3, 3, api.IS), has(4, 4, api.IX)), 2, 4, 1)
	// One that can't be granted keeps all others, even those that could be.
	scans(t, head(9, grows(1, 1, api.S, api.U, 8), grows(2, 2, api.S, api.X, 3), wants(3, 3, api.IS, 1)),
		head(9, grows(1, 1, api.S, api.U, 8), grows(2, 2, api.S, api.X, 3), wants(3, 3, api.IS, 1)))
	// What was granted to the first may keep the second.
	scans(t, head(9, grows(1, 1, api.S, api.U, 8), grows(2, 2, api.S, api.U, 3)),
		head(9, grows(1, 1, api.S, api.U, 8), has(2, 2, api.U)), 2)
	// Upgrades come before those that wait, even if these wait longer.
	scans(t, head(9, has(5, 5, api.IS), grows(1, 1, api.IS, api.S, 8), wants(2, 2, api.S, 3), wants(3, 3, api.IX, 4), wants(4, 4, api.IS, 9)),
		head(9, has(5, 5, api.IS), has(1, 1, api.S), has(2, 2, api.S), wants(3, 3, api.IX, 4), wants(4, 4, api.IS, 9)), 1, 2)
	// What the upgrade itself holds does not keep it.
	scans(t, head(1, grows(1, 1, api.U, api.X, 1)), head(1, has(1, 1, api.X)), 1)
}

// A request that is granted has what it wanted, even if that does not cover what it held.
func TestP9_4ScanGrantsTheWant(t *testing.T) {
	scans(t, head(1, grows(1, 1, api.S, api.IX, 1)), head(1, has(1, 1, api.IX)), 1)
	scans(t, head(1, has(2, 2, api.IS), grows(1, 1, api.U, api.IX, 1)), head(1, has(2, 2, api.IS), has(1, 1, api.IX)), 1)
}

func hands(t *testing.T, h api.Head, id, txn int, want api.Head, err api.Errno) {
	t.Helper()
	if got, e := queue.Hand(h, id, txn); e != err || !plainSame(got, want) {
		t.Errorf("%v: Hand(%d, %d) = %v, %d, want %v, %d", h, id, txn, got, e, want, err)
	}
}

func TestP9_4Hand(t *testing.T) {
	h := mixed()
	for _, txn := range []int{0, 2, 99, -1, math.MinInt, math.MaxInt} {
		h.Queue[3].Txn = txn
		hands(t, mixed(), 4, txn, h, api.OK)
	}
	hands(t, mixed(), 4, 14, mixed(), api.OK)
	hands(t, mixed(), 0, 10, mixed(), api.OK)
	for _, id := range []int{6, 10, -1, -3, math.MinInt, math.MaxInt} {
		hands(t, mixed(), id, 77, api.Head{}, api.ErrNone)
		hands(t, mixed(), id, 14, api.Head{}, api.ErrNone)
	}
	for _, r := range mixed().Queue {
		for _, s := range mixed().Queue {
			if r.ID != s.ID {
				hands(t, mixed(), r.ID, s.Txn, api.Head{}, api.ErrTwice)
			}
		}
		if waits(r) {
			hands(t, mixed(), r.ID, r.Txn, api.Head{}, api.ErrState)
			hands(t, mixed(), r.ID, 77, api.Head{}, api.ErrState)
		}
	}
}

func TestP9_5Find(t *testing.T) {
	for _, want := range mixed().Queue {
		if got, is := queue.Find(mixed(), want.ID); !is || got != want {
			t.Errorf("Find(%d) = %v, %v", want.ID, got, is)
		}
	}
	for _, id := range []int{6, 10, -1, -3, math.MinInt, math.MaxInt} {
		if got, is := queue.Find(mixed(), id); is || got != (api.Request{}) {
			t.Errorf("Find(%d) = %v, %v", id, got, is)
		}
	}
}

func TestP9_5Mode(t *testing.T) {
	for txn, want := range map[int]api.Mode{10: api.S, 5: api.S, -3: api.IS, 14: api.S, 12: api.None, 1: api.None, 0: api.None, 3: api.None, -1: api.None, math.MinInt: api.None} {
		if got := queue.Mode(mixed(), txn); got != want {
			t.Errorf("Mode(%d) = %d, want %d", txn, got, want)
		}
	}
	for _, m := range lockable() {
		if got := queue.Mode(head(0, has(1, 7, m)), 7); got != m {
			t.Errorf("Mode of one that holds %d = %d", m, got)
		}
	}
}

func TestP9_5Group(t *testing.T) {
	for _, c := range []struct {
		h    api.Head
		want api.Mode
	}{
		{api.Head{}, api.None},
		{head(3), api.None},
		{head(1, wants(1, 1, api.X, 1)), api.None},
		{head(1, has(1, 1, api.IS), has(2, 2, api.IX), wants(3, 3, api.X, 1)), api.IX},
		{head(1, grows(1, 1, api.S, api.X, 1), has(2, 2, api.IS)), api.S},
		{head(1, has(1, 1, api.S), has(2, 2, api.U), has(3, 3, api.IS)), api.U},
		{head(1, has(1, 1, api.IS), has(2, 2, api.SIX)), api.SIX},
		{mixed(), api.S},
	} {
		if got := queue.Group(c.h); got != c.want {
			t.Errorf("Group(%v) = %d, want %d", c.h, got, c.want)
		}
	}
}

func blocks(t *testing.T, h api.Head, id int, want ...int) {
	t.Helper()
	if got := queue.Blockers(h, id); !slices.Equal(got, want) {
		t.Errorf("%v: Blockers(%d) = %v, want %v", h, id, got, want)
	}
}

func TestP9_5Blockers(t *testing.T) {
	for _, id := range []int{0, 4, 6, 10, -1, -3, math.MinInt, math.MaxInt} {
		blocks(t, mixed(), id)
	}
	// Of upgrades: who holds what clashes, and who upgrades for longer.
	blocks(t, mixed(), 1, -3, 10, 14)
	blocks(t, mixed(), 3, 5, 10, 14)
	// Of the others: all that upgrade, and all that wait before them, whether they clash or not.
	blocks(t, mixed(), 2, -3, 5)
	blocks(t, mixed(), 5, -3, 5, 12)
	h := head(4, has(0, 30, api.S), has(1, 20, api.U), has(2, 10, api.IS), wants(3, 5, api.U, 1), wants(4, 40, api.IS, 4))
	blocks(t, h, 3, 20)
	blocks(t, h, 4, 5)
	// One that can be granted has none.
	blocks(t, head(4, has(0, 30, api.S), wants(3, 5, api.S, 1), wants(4, 40, api.S, 4)), 3)
	blocks(t, head(4, has(0, 30, api.IS), grows(3, 5, api.IS, api.SIX, 2), grows(4, 40, api.IS, api.IX, 4)), 3)
	blocks(t, head(4, has(0, 30, api.IS), grows(3, 5, api.IS, api.SIX, 2), grows(4, 40, api.IS, api.IX, 4)), 4, 5)
	// An upgrade is not kept by those that wait without holding, nor by what it holds itself.
	blocks(t, head(4, grows(3, 5, api.S, api.X, 4), wants(1, 1, api.X, 1)), 3)
}

func TestP9_5Same(t *testing.T) {
	changes := map[string]func(h *api.Head){
		"Table":      func(h *api.Head) { h.Name.Table++ },
		"Record":     func(h *api.Head) { h.Name.Record++ },
		"Waits":      func(h *api.Head) { h.Waits-- },
		"shorter":    func(h *api.Head) { h.Queue = h.Queue[:5] },
		"longer":     func(h *api.Head) { h.Queue = append(h.Queue, api.Request{}) },
		"empty":      func(h *api.Head) { h.Queue = nil },
		"first ID":   func(h *api.Head) { h.Queue[0].ID++ },
		"Txn":        func(h *api.Head) { h.Queue[1].Txn++ },
		"Mode":       func(h *api.Head) { h.Queue[2].Mode++ },
		"Want":       func(h *api.Head) { h.Queue[3].Want++ },
		"last Since": func(h *api.Head) { h.Queue[5].Since++ },
		"order":      func(h *api.Head) { h.Queue[0], h.Queue[3] = h.Queue[3], h.Queue[0] },
	}
	if !queue.Same(mixed(), mixed()) {
		t.Error("a head is not the Same as itself")
	}
	for what, change := range changes {
		h := mixed()
		change(&h)
		if queue.Same(h, mixed()) || queue.Same(mixed(), h) {
			t.Errorf("Same of heads that differ: %s", what)
		}
		if !queue.Same(h, copied(h)) {
			t.Errorf("Same is false for equal heads, changed: %s", what)
		}
	}
	if !queue.Same(api.Head{}, api.Head{Queue: []api.Request{}}) || !queue.Same(api.Head{Queue: make([]api.Request, 0, 4)}, api.Head{}) {
		t.Error("Same of no requests = false")
	}
}

// Same takes heads that are not valid, too.
func TestP9_5SameOfAnyHeads(t *testing.T) {
	h := api.Head{Name: api.Name{Table: -9, Record: 500}, Waits: math.MinInt, Queue: []api.Request{
		{ID: -4, Txn: 1, Mode: 99, Want: -3, Since: -1}, {ID: -4, Txn: 1}, {}, has(1, 1, api.X), has(2, 2, api.X),
	}}
	check(t, "any", h, api.ErrArg)
	if !queue.Same(h, copied(h)) {
		t.Error("Same of equal heads = false")
	}
	for i := range h.Queue {
		g := copied(h)
		g.Queue[i].Since = 5
		if queue.Same(g, h) {
			t.Errorf("Same of heads that differ at %d = true", i)
		}
	}
}

func TestExamples(t *testing.T) {
	h := api.Head{}
	asks(t, h, 0, 1, api.S, api.Head{Queue: []api.Request{has(0, 1, api.S)}}, true)
	for id, m := range []api.Mode{api.S, api.X, api.S} {
		h, _, _ = queue.Ask(h, id, id+1, m)
	}
	want := []api.Request{has(0, 1, api.S), wants(1, 2, api.X, 1), wants(2, 3, api.S, 2)}
	if !slices.Equal(h.Queue, want) || h.Waits != 2 {
		t.Errorf("the asks lead to %v", h)
	}
	h, _ = queue.Leave(h, 0)
	scans(t, h, api.Head{Queue: []api.Request{has(1, 2, api.X), wants(2, 3, api.S, 2)}, Waits: 2}, 1)
}

// spare is h with requests of its own behind its queue, which are nobody's business.
func spare(h api.Head) api.Head {
	n := len(h.Queue)
	h.Queue = append(slices.Clip(slices.Clone(h.Queue)), has(50, 50, api.X), wants(51, 51, api.S, 1), has(52, 52, api.X))[:n]
	return h
}

// each calls f with the queues that all calls return for h.
func each(h api.Head, f func(l []api.Request)) {
	for id := range 7 {
		for _, m := range lockable() {
			g, _, _ := queue.Ask(h, id, 88, m)
			f(g.Queue)
			g, _, _ = queue.Upgrade(h, id, m)
			f(g.Queue)
		}
		g, _ := queue.Leave(h, id)
		f(g.Queue)
		g, _ = queue.Abandon(h, id)
		f(g.Queue)
		for _, txn := range []int{10, 14, 88} {
			g, _ = queue.Hand(h, id, txn)
			f(g.Queue)
		}
	}
	g, _ := queue.Scan(h)
	f(g.Queue)
}

// some is heads that Scan changes, and others.
func some() []api.Head {
	return []api.Head{
		{}, head(3), mixed(), head(1, wants(1, 1, api.X, 1)), head(1, grows(1, 1, api.S, api.X, 1)), head(0, has(1, 1, api.X)),
		head(2, has(0, 10, api.S), wants(1, 1, api.S, 1), wants(2, 2, api.X, 2)),
	}
}

func TestP9_ResultsAreNewMemory(t *testing.T) {
	for _, want := range some() {
		h := spare(want)
		each(h, func(l []api.Request) {
			l = l[:cap(l)]
			for i := range l {
				l[i] = api.Request{ID: -5, Txn: -5, Mode: -5, Want: -5, Since: -5}
			}
		})
		if !plainSame(h, want) || !slices.Equal(h.Queue[:len(h.Queue)+3], spare(want).Queue[:len(h.Queue)+3]) {
			t.Errorf("a result is part of %v, which has become %v", want, h)
		}
		a, b := queue.Blockers(h, 5), queue.Blockers(h, 5)
		for i := range a {
			a[i] = -99
		}
		if !slices.Equal(b, plainBlockers(want, 5)) {
			t.Errorf("two results share memory: %v", b)
		}
	}
}

// What stands behind a queue does not count, and stays as it is.
func TestP9_ArgumentsStayAsTheyAre(t *testing.T) {
	for _, want := range some() {
		h := spare(want)
		agrees(t, h, []int{0, 1, 2, 3, 4, 5, 50, 51}, []int{10, 1, 50, 51})
		queue.Check(h)
		queue.Same(h, h)
		if !plainSame(h, want) || !slices.Equal(h.Queue[:len(h.Queue)+3], spare(want).Queue[:len(h.Queue)+3]) {
			t.Errorf("%v has become %v", want, h.Queue[:len(h.Queue)+3])
		}
	}
}

// Heads that are not valid: every call returns, and no number of waits overflows.
func TestP9_AnyHeads(t *testing.T) {
	r := rand.New(rand.NewSource(9))
	numbers := []int{math.MinInt, -7, -1, 0, 1, 2, 3, 4, 5, 6, 7, 99, math.MaxInt - 1, math.MaxInt}
	number := func() int { return numbers[r.Intn(len(numbers))] }
	for range 20000 {
		h := api.Head{Waits: number()}
		for range r.Intn(5) {
			h.Queue = append(h.Queue, api.Request{ID: number(), Txn: number(), Mode: api.Mode(number()), Want: api.Mode(number()), Since: number()})
		}
		id, txn, m := number(), number(), api.Mode(number())
		g, _, e := queue.Ask(h, id, txn, m)
		if e == api.OK && g.Waits < h.Waits {
			t.Fatalf("%v: Ask returned %v", h, g)
		}
		g, _, e = queue.Upgrade(h, id, m)
		if e == api.OK && g.Waits < h.Waits {
			t.Fatalf("%v: Upgrade returned %v", h, g)
		}
		queue.Leave(h, id)
		queue.Abandon(h, id)
		queue.Scan(h)
		queue.Hand(h, id, txn)
		queue.Find(h, id)
		queue.Mode(h, txn)
		queue.Group(h)
		queue.Blockers(h, id)
		if !queue.Same(h, copied(h)) || (queue.Check(h) == api.OK) != plainValid(h) {
			t.Fatalf("%v: Same or Check", h)
		}
	}
}

// A head with many requests, which Scan grants all but the last.
func TestP9_4ScanOfManyRequests(t *testing.T) {
	const n = 100000
	h := head(2*n + 1)
	for i := range n {
		h.Queue = append(h.Queue, grows(i, i, api.IS, api.IX, 2*n-i))
	}
	for i := range n {
		h.Queue = append(h.Queue, wants(n+i, n+i, api.IS, i+1))
	}
	h.Queue = append(h.Queue, wants(2*n, 2*n, api.S, 2*n+1))
	if e := queue.Check(h); e != api.OK {
		t.Errorf("Check = %d", e)
	}
	got, ids := queue.Scan(h)
	if len(ids) != 2*n || ids[0] != n-1 || ids[n-1] != 0 || ids[n] != n || ids[2*n-1] != 2*n-1 {
		t.Errorf("Scan granted %d requests", len(ids))
	}
	if queue.Check(got) != api.OK || queue.Group(got) != api.IX || len(queue.Blockers(got, 2*n)) != n {
		t.Errorf("after Scan, Group = %d", queue.Group(got))
	}
}
