package queue_test

import (
	"slices"

	"latchstring/api"
	"latchstring/mode"
)

// This is the chapter's words, read one by one: each question looks at all requests, and at all pairs of them.

func holds(r api.Request) bool { return r.Mode != api.None }

func waits(r api.Request) bool { return r.Since > 0 }

func upgrades(r api.Request) bool { return holds(r) && waits(r) }

func known(m api.Mode) bool { return m >= 0 && m <= 6 }

// fitsAlone is what a valid head asks of one request.
func fitsAlone(r api.Request, most int) bool {
	if r.ID < 0 || !(holds(r) || waits(r)) || !known(r.Mode) || !known(r.Want) || r.Since < 0 || r.Since > most {
		return false
	}
	if waits(r) {
		return !mode.Covers(r.Mode, r.Want)
	}
	return r.Want == r.Mode
}

// fitTogether is what a valid head asks of two requests, a before b.
func fitTogether(a, b api.Request) bool {
	switch {
	case a.ID == b.ID || a.Txn == b.Txn:
		return false
	case waits(a) && waits(b) && a.Since == b.Since:
		return false
	case holds(b) && !holds(a):
		return false
	case !holds(a) && !holds(b) && a.Since > b.Since:
		return false
	case holds(a) && holds(b) && !mode.Compatible(a.Mode, b.Mode):
		return false
	}
	return true
}

func plainValid(h api.Head) bool {
	if h.Waits < 0 || h.Waits > 1<<62 {
		return false
	}
	for j, b := range h.Queue {
		if !fitsAlone(b, h.Waits) {
			return false
		}
		for _, a := range h.Queue[:j] {
			if !fitTogether(a, b) {
				return false
			}
		}
	}
	return true
}

// inTheWay reports whether the request at j is one because of which the one at i, which waits, can't be granted.
func inTheWay(h api.Head, j, i int) bool {
	a, r := h.Queue[j], h.Queue[i]
	switch {
	case i == j:
		return false
	case holds(a) && !mode.Compatible(a.Mode, r.Want):
		return true
	case upgrades(a) && upgrades(r):
		return a.Since < r.Since
	case upgrades(a):
		return true
	}
	return !holds(r) && waits(a) && j < i
}

func plainGrantable(h api.Head, i int) bool {
	if !waits(h.Queue[i]) {
		return false
	}
	for j := range h.Queue {
		if inTheWay(h, j, i) {
			return false
		}
	}
	return true
}

func plainPlace(h api.Head, id int) int {
	for i, r := range h.Queue {
		if r.ID == id {
			return i
		}
	}
	return -1
}

func plainPlaceOf(h api.Head, txn int) int {
	for i, r := range h.Queue {
		if r.Txn == txn {
			return i
		}
	}
	return -1
}

func copied(h api.Head) api.Head {
	h.Queue = append([]api.Request(nil), h.Queue...)
	return h
}

func plainAsk(h api.Head, id, txn int, m api.Mode) (api.Head, bool, api.Errno) {
	if id < 0 || m == api.None || !known(m) {
		return api.Head{}, false, api.ErrArg
	}
	if plainPlace(h, id) >= 0 || plainPlaceOf(h, txn) >= 0 {
		return api.Head{}, false, api.ErrTwice
	}
	granted := true
	for _, a := range h.Queue {
		granted = granted && !waits(a) && mode.Compatible(a.Mode, m)
	}
	g := copied(h)
	r := api.Request{ID: id, Txn: txn, Mode: m, Want: m}
	if !granted {
		g.Waits++
		r.Mode, r.Since = api.None, g.Waits
	}
	g.Queue = append(g.Queue, r)
	return g, granted, api.OK
}

func plainUpgrade(h api.Head, id int, m api.Mode) (api.Head, bool, api.Errno) {
	i := plainPlace(h, id)
	switch {
	case m == api.None || !known(m):
		return api.Head{}, false, api.ErrArg
	case i < 0:
		return api.Head{}, false, api.ErrNone
	case waits(h.Queue[i]):
		return api.Head{}, false, api.ErrState
	}
	g := copied(h)
	r := &g.Queue[i]
	sup := mode.Sup(r.Mode, m)
	if sup == r.Mode {
		return g, true, api.OK
	}
	granted := true
	for j, a := range h.Queue {
		granted = granted && !upgrades(a) && (j == i || !holds(a) || mode.Compatible(a.Mode, sup))
	}
	r.Want = sup
	if granted {
		r.Mode = sup
	} else {
		g.Waits++
		r.Since = g.Waits
	}
	return g, granted, api.OK
}

func plainWithout(h api.Head, i int) api.Head {
	g := h
	g.Queue = nil
	for j, r := range h.Queue {
		if j != i {
			g.Queue = append(g.Queue, r)
		}
	}
	return g
}

func plainLeave(h api.Head, id int) (api.Head, api.Errno) {
	i := plainPlace(h, id)
	if i < 0 {
		return api.Head{}, api.ErrNone
	}
	return plainWithout(h, i), api.OK
}

func plainAbandon(h api.Head, id int) (api.Head, api.Errno) {
	i := plainPlace(h, id)
	switch {
	case i < 0:
		return api.Head{}, api.ErrNone
	case !waits(h.Queue[i]):
		return api.Head{}, api.ErrState
	case !holds(h.Queue[i]):
		return plainWithout(h, i), api.OK
	}
	g := copied(h)
	g.Queue[i].Want, g.Queue[i].Since = g.Queue[i].Mode, 0
	return g, api.OK
}

// plainScan grants one request after the other: there is never more than one that can be granted.
func plainScan(h api.Head) (api.Head, []int) {
	var ids []int
	g := copied(h)
	for {
		i := slices.IndexFunc(g.Queue, func(r api.Request) bool { return plainGrantable(g, plainPlace(g, r.ID)) })
		if i < 0 {
			return g, ids
		}
		r := g.Queue[i]
		ids = append(ids, r.ID)
		was := holds(r)
		r.Mode, r.Since = r.Want, 0
		if was {
			g.Queue[i] = r
			continue
		}
		g = plainWithout(g, i)
		end := 0
		for end < len(g.Queue) && holds(g.Queue[end]) {
			end++
		}
		g.Queue = slices.Insert(g.Queue, end, r)
	}
}

func plainHand(h api.Head, id, txn int) (api.Head, api.Errno) {
	i, j := plainPlace(h, id), plainPlaceOf(h, txn)
	switch {
	case i < 0:
		return api.Head{}, api.ErrNone
	case j >= 0 && j != i:
		return api.Head{}, api.ErrTwice
	case waits(h.Queue[i]):
		return api.Head{}, api.ErrState
	}
	g := copied(h)
	g.Queue[i].Txn = txn
	return g, api.OK
}

func plainMode(h api.Head, txn int) api.Mode {
	for _, r := range h.Queue {
		if r.Txn == txn && holds(r) {
			return r.Mode
		}
	}
	return api.None
}

func plainGroup(h api.Head) api.Mode {
	group := api.None
	for _, r := range h.Queue {
		if holds(r) {
			group = mode.Sup(group, r.Mode)
		}
	}
	return group
}

func plainBlockers(h api.Head, id int) []int {
	i := plainPlace(h, id)
	if i < 0 || !waits(h.Queue[i]) {
		return nil
	}
	var txns []int
	for j, a := range h.Queue {
		if inTheWay(h, j, i) && !slices.Contains(txns, a.Txn) {
			txns = append(txns, a.Txn)
		}
	}
	slices.Sort(txns)
	return txns
}

func plainSame(a, b api.Head) bool {
	if a.Name.Table != b.Name.Table || a.Name.Record != b.Name.Record || a.Waits != b.Waits || len(a.Queue) != len(b.Queue) {
		return false
	}
	for i, r := range a.Queue {
		s := b.Queue[i]
		if r.ID != s.ID || r.Txn != s.Txn || r.Mode != s.Mode || r.Want != s.Want || r.Since != s.Since {
			return false
		}
	}
	return true
}
