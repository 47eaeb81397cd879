package queue_test

import (
	"math"
	"math/rand"
	"slices"
	"testing"

	"latchstring/api"
	"latchstring/queue"
)

func check(t *testing.T, what any, h api.Head, want api.Errno) {
	t.Helper()
	if got := queue.Check(h); got != want {
		t.Errorf("%v: Check(%v) = %d, want %d", what, h, got, want)
	}
	if is := plainValid(h); is != (want == api.OK) {
		t.Errorf("%v: the test reads %v otherwise", what, h)
	}
}

func TestP9_1OfNothing(t *testing.T) {
	check(t, "the zero head", api.Head{}, api.OK)
	check(t, "no requests", api.Head{Queue: []api.Request{}}, api.OK)
	check(t, "no requests, but waits", head(9), api.OK)
}

func TestP9_1ValidHeads(t *testing.T) {
	for what, h := range map[string]api.Head{
		"one that holds":                head(0, has(0, 0, api.X)),
		"several that hold":             head(0, has(2, 5, api.U), has(0, 1, api.IS), has(1, 2, api.S), has(3, 3, api.S)),
		"one that waits for nothing":    head(1, wants(0, 0, api.S, 1)),
		"those that wait":               head(7, has(3, 1, api.S), wants(1, 9, api.X, 2), wants(2, 8, api.IS, 5), wants(0, 7, api.X, 7)),
		"upgrades in any order":         head(5, grows(1, 1, api.S, api.X, 4), has(2, 2, api.S), grows(3, 3, api.S, api.SIX, 2)),
		"an upgrade behind waits":       head(3, grows(1, 1, api.IS, api.X, 3), wants(2, 2, api.S, 1)),
		"a Want that does not cover":    head(1, grows(1, 1, api.S, api.IX, 1)),
		"Txns below 0":                  head(1, has(0, -1, api.S), has(1, math.MinInt, api.S), wants(2, -2, api.X, 1)),
		"the greatest ID":               head(0, has(math.MaxInt, math.MaxInt, api.S)),
		"the most waits":                head(1<<62, has(0, 0, api.S), wants(1, 1, api.X, 1<<62)),
		"a wait that others have ended": head(9, wants(1, 1, api.X, 3)),
		"a name that is none":           {Name: api.Name{Table: -7, Record: 1000}, Queue: []api.Request{has(1, 1, api.S)}},
	} {
		check(t, what, h, api.OK)
	}
}

func TestP9_1IDs(t *testing.T) {
	for _, id := range []int{-1, -2, math.MinInt32, math.MinInt} {
		check(t, id, head(0, has(id, 1, api.S)), api.ErrArg)
		check(t, id, head(1, has(1, 1, api.S), wants(id, 2, api.X, 1)), api.ErrArg)
	}
	check(t, "twice", head(0, has(1, 1, api.S), has(1, 2, api.S)), api.ErrArg)
	check(t, "twice, apart", head(1, has(1, 1, api.S), has(2, 2, api.S), wants(1, 3, api.X, 1)), api.ErrArg)
	check(t, "twice, waiting", head(2, wants(1, 1, api.S, 1), wants(1, 2, api.S, 2)), api.ErrArg)
}

func TestP9_1Txns(t *testing.T) {
	check(t, "twice", head(0, has(1, 5, api.S), has(2, 5, api.S)), api.ErrArg)
	check(t, "twice, apart", head(1, has(1, 5, api.S), has(2, 2, api.S), wants(3, 5, api.X, 1)), api.ErrArg)
	check(t, "twice, below 0", head(2, wants(1, -5, api.S, 1), wants(2, -5, api.S, 2)), api.ErrArg)
}

func TestP9_1NeitherHoldsNorWaits(t *testing.T) {
	check(t, "nothing", head(1, api.Request{ID: 1, Txn: 1}), api.ErrArg)
	check(t, "behind others", head(1, has(0, 0, api.S), api.Request{ID: 1, Txn: 1}), api.ErrArg)
	for _, m := range lockable() {
		check(t, m, head(1, wants(1, 1, m, 0)), api.ErrArg)
	}
}

func TestP9_1Modes(t *testing.T) {
	for _, m := range lockable() {
		check(t, m, head(1, has(1, 1, m)), api.OK)
		check(t, m, head(1, wants(1, 1, m, 1)), api.OK)
	}
	for _, m := range notLockable() {
		check(t, m, head(1, has(1, 1, m)), api.ErrArg)
		check(t, m, head(1, wants(1, 1, m, 1)), api.ErrArg)
		check(t, m, head(1, grows(1, 1, api.IS, m, 1)), api.ErrArg)
		check(t, m, head(2, has(1, 1, api.S), wants(2, 2, m, 2)), api.ErrArg)
		if m != api.None {
			check(t, m, head(1, grows(1, 1, m, api.X, 1)), api.ErrArg)
			check(t, m, head(1, has(2, 2, api.IS), has(1, 1, m)), api.ErrArg)
		}
	}
}

func TestP9_1Wants(t *testing.T) {
	for _, c := range []struct {
		m, want api.Mode
		waits   api.Errno // of one that upgrades
	}{
		{api.S, api.IS, api.ErrArg},
		{api.S, api.S, api.ErrArg},
		{api.S, api.IX, api.OK},
		{api.S, api.SIX, api.OK},
		{api.S, api.U, api.OK},
		{api.U, api.S, api.ErrArg},
		{api.U, api.IX, api.OK},
		{api.SIX, api.IX, api.ErrArg},
		{api.SIX, api.U, api.OK},
		{api.IX, api.IS, api.ErrArg},
		{api.X, api.U, api.ErrArg},
		{api.X, api.X, api.ErrArg},
		{api.IS, api.X, api.OK},
	} {
		check(t, c, head(1, grows(1, 1, c.m, c.want, 1)), c.waits)
		still := api.ErrArg
		if c.want == c.m {
			still = api.OK
		}
		check(t, c, head(1, grows(1, 1, c.m, c.want, 0)), still)
	}
	check(t, "holds S, wants nothing", head(0, grows(1, 1, api.S, api.None, 0)), api.ErrArg)
}

func TestP9_1Waits(t *testing.T) {
	for _, c := range []struct {
		waits int
		want  api.Errno
	}{
		{-1, api.ErrArg},
		{math.MinInt, api.ErrArg},
		{0, api.OK},
		{1, api.OK},
		{1<<62 - 1, api.OK},
		{1 << 62, api.OK},
		{1<<62 + 1, api.ErrArg},
		{math.MaxInt, api.ErrArg},
	} {
		check(t, c, head(c.waits), c.want)
		check(t, c, head(c.waits, has(1, 1, api.S)), c.want)
	}
}

func TestP9_1Since(t *testing.T) {
	for _, since := range []int{-1, -2, math.MinInt, 4, 5, math.MaxInt} {
		check(t, since, head(3, wants(1, 1, api.S, since)), api.ErrArg)
		check(t, since, head(3, grows(1, 1, api.S, api.X, since)), api.ErrArg)
		check(t, since, head(3, grows(1, 1, api.S, api.S, since)), api.ErrArg)
	}
	for since := 1; since <= 3; since++ {
		check(t, since, head(3, wants(1, 1, api.S, since)), api.OK)
		check(t, since, head(3, grows(1, 1, api.S, api.X, since)), api.OK)
	}
	check(t, "waits 0", head(0, wants(1, 1, api.S, 1)), api.ErrArg)
	check(t, "twice", head(3, wants(1, 1, api.S, 2), wants(2, 2, api.S, 2)), api.ErrArg)
	check(t, "twice, upgrades", head(3, grows(1, 1, api.S, api.X, 2), grows(2, 2, api.S, api.X, 2)), api.ErrArg)
	check(t, "twice, an upgrade and another", head(3, grows(1, 1, api.S, api.X, 2), wants(2, 2, api.S, 2)), api.ErrArg)
	check(t, "twice, apart", head(3, grows(1, 1, api.S, api.X, 2), has(3, 3, api.S), wants(2, 2, api.S, 2)), api.ErrArg)
	check(t, "0 more than once", head(3, has(1, 1, api.S), has(2, 2, api.S)), api.OK)
}

func TestP9_1Places(t *testing.T) {
	check(t, "holds behind", head(1, wants(1, 1, api.S, 1), has(2, 2, api.S)), api.ErrArg)
	check(t, "upgrades behind", head(2, wants(1, 1, api.S, 1), grows(2, 2, api.S, api.X, 2)), api.ErrArg)
	check(t, "holds between", head(2, wants(1, 1, api.S, 1), has(2, 2, api.S), wants(3, 3, api.X, 2)), api.ErrArg)
	check(t, "holds between others", head(2, has(4, 4, api.S), wants(1, 1, api.S, 1), has(2, 2, api.S)), api.ErrArg)
	check(t, "not ascending", head(2, wants(1, 1, api.S, 2), wants(2, 2, api.S, 1)), api.ErrArg)
	check(t, "not ascending at the end", head(4, has(0, 0, api.S), wants(1, 1, api.S, 1), wants(2, 2, api.S, 4), wants(3, 3, api.S, 3)), api.ErrArg)
	check(t, "ascending", head(4, has(0, 0, api.S), wants(1, 1, api.S, 1), wants(2, 2, api.S, 3), wants(3, 3, api.S, 4)), api.OK)
}

func TestP9_1WhatHolds(t *testing.T) {
	check(t, "X twice", head(0, has(1, 1, api.X), has(2, 2, api.X)), api.ErrArg)
	check(t, "U twice", head(0, has(1, 1, api.U), has(2, 2, api.U)), api.ErrArg)
	check(t, "U and S twice", head(0, has(1, 1, api.S), has(2, 2, api.U), has(3, 3, api.S)), api.OK)
	check(t, "IX and S", head(0, has(1, 1, api.IS), has(2, 2, api.IX), has(3, 3, api.IX), has(4, 4, api.S)), api.ErrArg)
	check(t, "X apart", head(0, has(1, 1, api.X), has(2, 2, api.IS)), api.ErrArg)
	check(t, "an upgrade's Want clashes", head(1, grows(1, 1, api.S, api.X, 1), has(2, 2, api.S)), api.OK)
	check(t, "an upgrade's Mode clashes", head(1, grows(1, 1, api.S, api.X, 1), has(2, 2, api.IX)), api.ErrArg)
	check(t, "a Want clashes", head(1, has(1, 1, api.X), wants(2, 2, api.X, 1)), api.OK)
	for _, a := range lockable() {
		for _, b := range lockable() {
			h := head(0, has(1, 1, a), has(2, 2, b))
			want := api.ErrArg
			if plainValid(h) {
				want = api.OK
			}
			check(t, "pairs", h, want)
		}
	}
}

// A fault is found wherever it stands in a long head.
func TestP9_1FaultsInLongHeads(t *testing.T) {
	var l []api.Request
	for i := range 30 {
		l = append(l, has(i, 100-i, api.IS))
	}
	for i := 30; i < 60; i++ {
		l = append(l, wants(i, 100-i, api.IX, i-20))
	}
	check(t, "no fault", head(50, l...), api.OK)
	for i, r := range l {
		for what, change := range map[string]func(r *api.Request){
			"ID":    func(r *api.Request) { r.ID = (r.ID + 17) % 60 },
			"no ID": func(r *api.Request) { r.ID = -1 },
			"Txn":   func(r *api.Request) { r.Txn = l[(i+23)%60].Txn },
			"Mode":  func(r *api.Request) { r.Mode = 7 },
			"Want":  func(r *api.Request) { r.Want = -1 },
			"none":  func(r *api.Request) { r.Want = api.None },
			"Since": func(r *api.Request) { r.Since = 51 },
			"clash": func(r *api.Request) { r.Mode, r.Want = api.X, api.X },
			"wants": func(r *api.Request) { r.Mode, r.Want = api.X, api.S },
		} {
			g := slices.Clone(l)
			change(&g[i])
			check(t, []any{what, r}, head(50, g...), api.ErrArg)
		}
	}
}

// Heads that are valid but for some field, which becomes any small number.
func TestP9_1OfChangedHeads(t *testing.T) {
	faults := 0
	for seed := range 300 {
		r := rand.New(rand.NewSource(int64(seed)))
		h := head(0)
		for range 20 {
			h = anyCall(t, r, h, 8, 10)
		}
		if len(h.Queue) == 0 {
			continue
		}
		for range 60 {
			g := copied(h)
			q, x := &g.Queue[r.Intn(len(g.Queue))], r.Intn(9)-1
			switch r.Intn(6) {
			case 0:
				q.ID = x
			case 1:
				q.Txn = x
			case 2:
				q.Mode = api.Mode(x)
			case 3:
				q.Want = api.Mode(x)
			case 4:
				q.Since = x
			case 5:
				g.Waits = x
			}
			want := api.OK
			if !plainValid(g) {
				want = api.ErrArg
				faults++
			}
			check(t, seed, g, want)
		}
	}
	if faults < 1000 {
		t.Errorf("only %d faults", faults)
	}
}
