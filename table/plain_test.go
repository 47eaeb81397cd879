package table_test

import (
	"slices"

	"latchstring/api"
	"latchstring/queue"
)

// plain is a table after the chapter's words: a head for each name that has one, without stripes, and the name for which each ID is lent.
type plain struct {
	caps  api.Caps
	heads map[api.Name]api.Head
	lent  map[int]api.Name
}

func newPlain(c api.Caps) *plain {
	return &plain{caps: c, heads: map[api.Name]api.Head{}, lent: map[int]api.Name{}}
}

// room reports whether the stripe of n has room for the head of n.
func (p *plain) room(n api.Name) bool {
	same := 0
	for other := range p.heads {
		if other == n {
			return true
		}
		if stripeOf(other, p.caps.Stripes) == stripeOf(n, p.caps.Stripes) {
			same++
		}
	}
	return same < p.caps.Heads
}

// free is the smallest ID that is not lent.
func (p *plain) free() int {
	for id := 0; ; id++ {
		if _, is := p.lent[id]; !is {
			return id
		}
	}
}

// settle keeps a head after a call, and returns what was granted as a result.
func (p *plain) settle(n api.Name, h api.Head) []int {
	h, ids := queue.Scan(h)
	p.heads[n] = h
	if len(h.Queue) == 0 {
		delete(p.heads, n)
	}
	return ids
}

func lockable(m api.Mode) bool { return m >= api.IS && m <= api.X }

func (p *plain) Ask(n api.Name, txn int, m api.Mode) (int, bool, api.Errno) {
	_, has := p.Find(n, txn)
	switch {
	case !valid(n) || !lockable(m):
		return 0, false, api.ErrArg
	case has:
		return 0, false, api.ErrTwice
	case !p.room(n) || len(p.lent) == p.caps.Requests:
		return 0, false, api.ErrFull
	}
	id, h := p.free(), p.heads[n]
	h.Name = n
	h, granted, _ := queue.Ask(h, id, txn, m)
	p.lent[id] = n
	p.settle(n, h)
	return id, granted, api.OK
}

func (p *plain) Upgrade(id int, m api.Mode) (bool, api.Errno) {
	n, is := p.lent[id]
	switch {
	case !lockable(m):
		return false, api.ErrArg
	case !is:
		return false, api.ErrNone
	}
	h, granted, e := queue.Upgrade(p.heads[n], id, m)
	if e == api.OK {
		p.settle(n, h)
	}
	return granted, e
}

func (p *plain) Leave(id int) ([]int, api.Errno) {
	n, is := p.lent[id]
	if !is {
		return nil, api.ErrNone
	}
	h, _ := queue.Leave(p.heads[n], id)
	delete(p.lent, id)
	return p.settle(n, h), api.OK
}

func (p *plain) Abandon(id int) ([]int, api.Errno) {
	n, r, is := p.Get(id)
	switch {
	case !is:
		return nil, api.ErrNone
	case r.Since == 0:
		return nil, api.ErrState
	case r.Mode == api.None:
		return p.Leave(id)
	}
	h, _ := queue.Abandon(p.heads[n], id)
	return p.settle(n, h), api.OK
}

func (p *plain) Hand(id, txn int) api.Errno {
	n, is := p.lent[id]
	if !is {
		return api.ErrNone
	}
	h, e := queue.Hand(p.heads[n], id, txn)
	if e == api.OK {
		p.settle(n, h)
	}
	return e
}

func (p *plain) Get(id int) (api.Name, api.Request, bool) {
	n, is := p.lent[id]
	for _, r := range p.heads[n].Queue {
		if is && r.ID == id {
			return n, r, true
		}
	}
	return api.Name{}, api.Request{}, false
}

func (p *plain) Find(n api.Name, txn int) (int, bool) {
	for _, r := range p.heads[n].Queue {
		if r.Txn == txn {
			return r.ID, true
		}
	}
	return 0, false
}

// Snapshot sorts by one number for each name, which is at most 100 in each of its two numbers.
func (p *plain) Snapshot() []api.Head {
	var l []api.Head
	for _, h := range p.heads {
		l = append(l, h)
	}
	slices.SortFunc(l, func(a, b api.Head) int {
		return a.Name.Table*1000 + a.Name.Record - b.Name.Table*1000 - b.Name.Record
	})
	return l
}

// All puts each lock in by going over those that are there already.
func (p *plain) All() []api.Held {
	var l []api.Held
	for _, h := range p.Snapshot() {
		for _, r := range h.Queue {
			at := 0
			for at < len(l) && l[at].Txn <= r.Txn {
				at++
			}
			if r.Mode != api.None {
				l = slices.Insert(l, at, held(r.Txn, h.Name, r.Mode))
			}
		}
	}
	return l
}

func (p *plain) Holds(txn int) []api.Held {
	return slices.DeleteFunc(p.All(), func(x api.Held) bool { return x.Txn != txn })
}

func (p *plain) Counts() (heads, requests int) { return len(p.heads), len(p.lent) }
