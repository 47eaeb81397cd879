package queue_test

import (
	"math"
	"math/rand"
	"slices"
	"testing"

	"latchstring/api"
	"latchstring/queue"
)

// has is a request that holds.
func has(id, txn int, m api.Mode) api.Request {
	return api.Request{ID: id, Txn: txn, Mode: m, Want: m}
}

// wants is a request that waits, and holds nothing.
func wants(id, txn int, m api.Mode, since int) api.Request {
	return api.Request{ID: id, Txn: txn, Want: m, Since: since}
}

// grows is a request that upgrades.
func grows(id, txn int, m, want api.Mode, since int) api.Request {
	return api.Request{ID: id, Txn: txn, Mode: m, Want: want, Since: since}
}

func head(waits int, l ...api.Request) api.Head {
	return api.Head{Name: api.Name{Table: 3, Record: 7}, Queue: l, Waits: waits}
}

func lockable() []api.Mode { return []api.Mode{api.IS, api.IX, api.S, api.SIX, api.U, api.X} }

// notLockable is None and modes that there are not.
func notLockable() []api.Mode {
	return []api.Mode{api.None, -1, -6, 7, 8, 255, math.MaxInt32, math.MinInt, math.MaxInt}
}

// both holds a head and an error against what they must be; an error comes with the zero head.
func both(t *testing.T, h api.Head, what string, got api.Head, e api.Errno, want api.Head, err api.Errno) {
	t.Helper()
	if e != err || !plainSame(got, want) {
		t.Fatalf("%v: %s = %v, %d, want %v, %d", h, what, got, e, want, err)
	}
}

// agrees holds all calls for one valid head, with IDs and Txns that it has and others, against the chapter's words.
func agrees(t *testing.T, h api.Head, ids, txns []int) {
	t.Helper()
	before := copied(h)
	for _, id := range ids {
		agreesOf(t, h, id, txns)
	}
	for _, txn := range txns {
		if got, want := queue.Mode(h, txn), plainMode(h, txn); got != want {
			t.Fatalf("%v: Mode(%d) = %d, want %d", h, txn, got, want)
		}
	}
	if got, want := queue.Group(h), plainGroup(h); got != want {
		t.Fatalf("%v: Group = %d, want %d", h, got, want)
	}
	agreesScan(t, h)
	if !plainSame(h, before) {
		t.Fatalf("%v has become %v", before, h)
	}
}

func agreesOf(t *testing.T, h api.Head, id int, txns []int) {
	t.Helper()
	for _, txn := range txns {
		for _, m := range []api.Mode{api.None, api.IS, api.IX, api.S, api.SIX, api.U, api.X, 7} {
			got, granted, e := queue.Ask(h, id, txn, m)
			want, can, err := plainAsk(h, id, txn, m)
			both(t, h, "Ask", got, e, want, err)
			if granted != can {
				t.Fatalf("%v: Ask(%d, %d, %d) = %v", h, id, txn, m, granted)
			}
		}
		got, e := queue.Hand(h, id, txn)
		want, err := plainHand(h, id, txn)
		both(t, h, "Hand", got, e, want, err)
	}
	for _, m := range []api.Mode{api.None, api.IS, api.IX, api.S, api.SIX, api.U, api.X, 7} {
		got, granted, e := queue.Upgrade(h, id, m)
		want, can, err := plainUpgrade(h, id, m)
		both(t, h, "Upgrade", got, e, want, err)
		if granted != can {
			t.Fatalf("%v: Upgrade(%d, %d) = %v", h, id, m, granted)
		}
	}
	got, e := queue.Leave(h, id)
	want, err := plainLeave(h, id)
	both(t, h, "Leave", got, e, want, err)
	got, e = queue.Abandon(h, id)
	want, err = plainAbandon(h, id)
	both(t, h, "Abandon", got, e, want, err)
	if got, want := queue.Blockers(h, id), plainBlockers(h, id); !slices.Equal(got, want) {
		t.Fatalf("%v: Blockers(%d) = %v, want %v", h, id, got, want)
	}
	found, is := queue.Find(h, id)
	if i := plainPlace(h, id); is != (i >= 0) || is && found != h.Queue[i] || !is && found != (api.Request{}) {
		t.Fatalf("%v: Find(%d) = %v, %v", h, id, found, is)
	}
}

// agreesScan holds Scan against the chapter's words, and what it leaves against the theorems.
func agreesScan(t *testing.T, h api.Head) {
	t.Helper()
	got, ids := queue.Scan(h)
	want, all := plainScan(h)
	both(t, h, "Scan", got, 0, want, 0)
	if !slices.Equal(ids, all) {
		t.Fatalf("%v: Scan granted %v, want %v", h, ids, all)
	}
	if !plainValid(got) || queue.Check(got) != api.OK {
		t.Fatalf("%v: Scan returned %v, which is not valid", h, got)
	}
	for i, r := range got.Queue {
		if plainGrantable(got, i) {
			t.Fatalf("%v: Scan returned %v, where %d can be granted", h, got, r.ID)
		}
		if waits(r) && len(queue.Blockers(got, r.ID)) == 0 {
			t.Fatalf("%v: Scan returned %v, where %d waits without blockers", h, got, r.ID)
		}
	}
	if again, more := queue.Scan(got); len(more) != 0 || !plainSame(again, got) {
		t.Fatalf("%v: Scan of %v granted %v more", h, got, more)
	}
}

// heads calls f with each head of up to n requests whose number of waits is given; those that are not valid are not continued.
func heads(n, most int, f func(h api.Head)) {
	ids, txns := []int{4, 0, 7}, []int{2, -1, 5}
	var extend func(h api.Head)
	extend = func(h api.Head) {
		f(h)
		k := len(h.Queue)
		if k == n || !plainValid(h) {
			return
		}
		for m := range api.Mode(7) {
			for w := range api.Mode(7) {
				for since := range most + 1 {
					g := h
					g.Queue = append(slices.Clip(h.Queue), api.Request{ID: ids[k], Txn: txns[k], Mode: m, Want: w, Since: since})
					extend(g)
				}
			}
		}
	}
	extend(head(most))
}

func TestP9_1OfAllSmallHeads(t *testing.T) {
	valid, not := 0, 0
	heads(3, 2, func(h api.Head) {
		want := api.ErrArg
		if plainValid(h) {
			want = api.OK
			valid++
		} else {
			not++
		}
		if got := queue.Check(h); got != want {
			t.Fatalf("Check(%v) = %d, want %d", h, got, want)
		}
	})
	if valid < 1000 || not < 1000 {
		t.Errorf("only %d valid heads, and %d others", valid, not)
	}
}

func TestP9_2To9_6OfAllSmallHeads(t *testing.T) {
	ids, txns := []int{4, 0, 3, -1}, []int{2, -1, 9}
	heads(2, 3, func(h api.Head) {
		if plainValid(h) {
			agrees(t, h, ids, txns)
		}
	})
}

func TestP9_2To9_6OfHeadsOfThree(t *testing.T) {
	ids, txns := []int{4, 0, 7, 3}, []int{2, 9}
	n := 0
	heads(3, 3, func(h api.Head) {
		if len(h.Queue) == 3 && plainValid(h) {
			agrees(t, h, ids, txns)
			n++
		}
	})
	if n < 30000 {
		t.Errorf("only %d heads", n)
	}
}

// One of the calls that change a head; whatever it returns is held against the chapter's words.
func anyCall(t *testing.T, r *rand.Rand, h api.Head, ids, txns int) api.Head {
	t.Helper()
	id, txn, m := r.Intn(ids), r.Intn(txns)-2, api.Mode(1+r.Intn(6))
	if r.Intn(2) == 0 {
		m = []api.Mode{api.IS, api.IX, api.S}[r.Intn(3)]
	}
	var got, want api.Head
	var e, err api.Errno
	what := ""
	switch r.Intn(12) {
	case 0, 1, 2, 3, 4:
		what = "Ask"
		got, _, e = queue.Ask(h, id, txn, m)
		want, _, err = plainAsk(h, id, txn, m)
	case 5, 6, 7:
		what = "Upgrade"
		got, _, e = queue.Upgrade(h, id, m)
		want, _, err = plainUpgrade(h, id, m)
	case 8:
		what = "Leave"
		got, e = queue.Leave(h, id)
		want, err = plainLeave(h, id)
	case 9:
		what = "Abandon"
		got, e = queue.Abandon(h, id)
		want, err = plainAbandon(h, id)
	case 10:
		what = "Hand"
		got, e = queue.Hand(h, id, txn)
		want, err = plainHand(h, id, txn)
	case 11:
		what = "Scan"
		got, _ = queue.Scan(h)
		want, _ = plainScan(h)
	}
	both(t, h, what, got, e, want, err)
	if e != api.OK {
		return h
	}
	return got
}

// What holds is compatible, whatever is asked, left and scanned: each head on the way is valid.
func TestP9_2To9_6OfLongHeads(t *testing.T) {
	longest := 0
	for seed := range 40 {
		r := rand.New(rand.NewSource(int64(seed)))
		h := head(r.Intn(3))
		for range 150 {
			h = anyCall(t, r, h, 14, 18)
			if !plainValid(h) || queue.Check(h) != api.OK {
				t.Fatalf("seed %d: %v is not valid", seed, h)
			}
			agreesScan(t, h)
			longest = max(longest, len(h.Queue))
		}
		agrees(t, h, []int{0, 3, 5, 8, 13, 14}, []int{-2, 0, 4, 9, 15, 20})
	}
	if longest < 10 {
		t.Errorf("the longest head has %d requests", longest)
	}
}
