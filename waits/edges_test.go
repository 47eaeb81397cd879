package waits_test

import (
	"math"
	"math/rand"
	"slices"
	"testing"

	"latchstring/api"
	"latchstring/mode"
	"latchstring/queue"
	"latchstring/waits"
)

// has is a request that holds.
func has(id, txn int, m api.Mode) api.Request {
	return api.Request{ID: id, Txn: txn, Mode: m, Want: m}
}

// wants is a request that waits, and holds nothing.
func wants(id, txn int, m api.Mode, since int) api.Request {
	return api.Request{ID: id, Txn: txn, Want: m, Since: since}
}

// grows is a request that upgrades.
func grows(id, txn int, m, want api.Mode, since int) api.Request {
	return api.Request{ID: id, Txn: txn, Mode: m, Want: want, Since: since}
}

func head(waits int, l ...api.Request) api.Head {
	return api.Head{Name: api.Name{Table: 3, Record: 7}, Queue: l, Waits: waits}
}

// leads holds Edges of valid heads against what they must be.
func leads(t *testing.T, want []api.Edge, l ...api.Head) {
	t.Helper()
	for _, h := range l {
		if e := queue.Check(h); e != api.OK {
			t.Fatalf("%v is not valid: %d", h, e)
		}
	}
	if got := waits.Edges(l); !slices.Equal(got, want) {
		t.Errorf("Edges(%v) = %v, want %v", l, got, want)
	}
}

func TestP13_1EdgesOfNothing(t *testing.T) {
	leads(t, nil)
	leads(t, nil, api.Head{})
	leads(t, nil, head(3), head(0))
	leads(t, nil, head(5, has(1, 1, api.IS), has(2, 2, api.IX), has(3, 3, api.IS)))
	if got := waits.Edges(nil); len(got) != 0 {
		t.Errorf("Edges(nil) = %v", got)
	}
}

func TestP13_1EdgesOfThoseThatWait(t *testing.T) {
	leads(t, edges(2, 1), head(1, has(8, 1, api.X), wants(9, 2, api.S, 1)))
	leads(t, edges(5, 7, 6, 5, 6, 7), head(2, has(0, 7, api.X), wants(1, 5, api.S, 1), wants(2, 6, api.S, 2)))
	// Only those that are not compatible, or wait before it.
	leads(t, edges(4, 2, 5, 4), head(2, has(1, 1, api.IS), has(2, 2, api.IX), has(3, 3, api.IS), wants(4, 4, api.S, 1), wants(5, 5, api.IS, 2)))
	// One that could be granted has no edges; a Scan was not called yet.
	leads(t, edges(3, 2), head(2, has(1, 1, api.S), wants(2, 2, api.S, 1), wants(3, 3, api.S, 2)))
}

func TestP13_1EdgesOfUpgrades(t *testing.T) {
	leads(t, edges(1, 2, 2, 1), head(2, grows(1, 1, api.S, api.X, 1), grows(2, 2, api.S, api.X, 2)))
	// Of upgrades only the ones whose waits began earlier, if what they hold is compatible.
	leads(t, edges(1, 2), head(2, grows(1, 1, api.IS, api.S, 2), grows(2, 2, api.IS, api.IX, 1)))
	// Those that hold nothing wait for all upgrades, also for later ones; upgrades do not wait for them.
	leads(t, edges(1, 2, 3, 1), head(2, grows(1, 1, api.IS, api.X, 2), has(2, 2, api.IS), wants(3, 3, api.IS, 1)))
}

// The numbers of transactions count, not those of requests, and they may be any.
func TestP13_1EdgesOfAnyTxn(t *testing.T) {
	for _, a := range []int{0, -1, 1 << 32, math.MinInt, math.MaxInt} {
		for _, b := range []int{5, -7, 1 + 1<<32, math.MinInt + 1, math.MaxInt - 1} {
			leads(t, edges(b, a), head(1, has(3, a, api.U), wants(1, b, api.U, 1)))
		}
	}
}

// All heads count, sorted over all, and an edge of several heads is there once.
func TestP13_1EdgesOfSeveralHeads(t *testing.T) {
	a := head(1, has(1, 1, api.X), wants(2, 2, api.S, 1))
	b := head(1, has(2, 2, api.X), wants(1, 1, api.S, 1))
	c := head(9, has(5, 1, api.S), wants(6, 2, api.X, 4), wants(7, 0, api.S, 9))
	leads(t, edges(1, 2, 2, 1), a, b)
	leads(t, edges(1, 2, 2, 1), b, a)
	leads(t, edges(2, 1), a, a)
	leads(t, edges(0, 2, 1, 2, 2, 1), a, b, c)
	leads(t, edges(0, 2, 1, 2, 2, 1), c, head(0), b, a, c)
}

// others is heads that are not valid, each in another way.
func others() []api.Head {
	return []api.Head{
		head(1, has(1, 1, api.X), wants(1, 2, api.S, 1)),
		head(2, wants(1, 2, api.S, 1), wants(1, 2, api.X, 1), has(1, 2, api.X)),
		head(1, has(1, 1, api.X), wants(2, 1, api.X, 1)),
		head(0, has(1, 1, 99), wants(2, 2, -4, 7)),
		head(-5, api.Request{}, api.Request{Since: -1, Want: api.X}, wants(-3, -3, api.None, math.MaxInt)),
		head(0, wants(math.MinInt, math.MaxInt, math.MaxInt, math.MinInt)),
		head(1, wants(3, 3, api.X, 9), grows(4, 4, api.X, api.IS, 9), has(5, 5, api.X), has(6, 6, api.X)),
	}
}

func TestP13_1EdgesOfOthersReturn(t *testing.T) {
	for _, h := range others() {
		if queue.Check(h) == api.OK {
			t.Fatalf("%v is valid", h)
		}
		waits.Edges([]api.Head{h})
	}
	waits.Edges(others())
}

// anyCall changes a head by a call, or not at all if the call is not possible.
func anyCall(r *rand.Rand, h api.Head, txns int) api.Head {
	id := r.Intn(txns)
	m := api.Mode(1 + r.Intn(6))
	g, e := h, api.OK
	switch r.Intn(8) {
	case 0, 1, 2:
		g, _, e = queue.Ask(h, id, txns-id, m)
	case 3, 4, 5:
		g, _, e = queue.Upgrade(h, id, m)
	case 6:
		g, e = queue.Leave(h, id)
	case 7:
		g, _ = queue.Scan(h)
	}
	if e != api.OK {
		return h
	}
	return g
}

// Heads of all kinds, with what stands in the way of each one, as chapter 9 tells it.
func TestP13_1EdgesAgainstTheWords(t *testing.T) {
	r := rand.New(rand.NewSource(1))
	for range 300 {
		l := make([]api.Head, 1+r.Intn(3))
		for range 60 {
			i := r.Intn(len(l))
			l[i] = anyCall(r, l[i], 2+r.Intn(6))
			leads(t, plainEdges(l), l...)
		}
	}
}

// Each pair of modes, and each place of the two.
func TestP13_1EdgesForEachPairOfModes(t *testing.T) {
	for a := api.IS; a <= api.X; a++ {
		for b := api.IS; b <= api.X; b++ {
			var want []api.Edge
			if !mode.Compatible(a, b) {
				want = edges(5, 4)
			}
			leads(t, want, head(1, has(1, 4, a), wants(2, 5, b, 1)))
			if !mode.Covers(api.IS, b) && mode.Compatible(a, api.IS) {
				leads(t, want, head(1, grows(2, 5, api.IS, b, 1), has(1, 4, a)))
			}
		}
	}
}
