package bucket_test

import (
	"slices"

	"latchstring/api"
	"latchstring/queue"
)

// plain is a bucket after the chapter's words: heads in any order, and a list of the numbers that are lent.
type plain struct {
	most  int
	lent  []bool
	heads []api.Head
}

func newPlain(heads, numbers int) *plain {
	return &plain{most: heads, lent: make([]bool, numbers)}
}

// take is the smallest number that is not lent, -1 if there is none.
func (p *plain) take() int {
	id := slices.Index(p.lent, false)
	if id >= 0 {
		p.lent[id] = true
	}
	return id
}

func (p *plain) live() int {
	n := 0
	for _, is := range p.lent {
		if is {
			n++
		}
	}
	return n
}

// of is the index of the head of n, -1 if there is none.
func (p *plain) of(n api.Name) int {
	return slices.IndexFunc(p.heads, func(h api.Head) bool { return h.Name == n })
}

// where is the index of the head of a request, and the request's index there, -1 if there is none.
func (p *plain) where(id int) (int, int) {
	for i, h := range p.heads {
		for j, r := range h.Queue {
			if r.ID == id {
				return i, j
			}
		}
	}
	return -1, -1
}

// scan grants what can be granted in the head at i, and removes the head if it is empty.
func (p *plain) scan(i int) []int {
	h, ids := queue.Scan(p.heads[i])
	p.heads[i] = h
	if len(h.Queue) == 0 {
		p.heads = slices.Delete(p.heads, i, i+1)
	}
	return ids
}

func lockable(m api.Mode) bool { return m >= api.IS && m <= api.X }

func (p *plain) Ask(n api.Name, txn int, m api.Mode) (int, bool, api.Errno) {
	i := p.of(n)
	_, has := p.Find(n, txn)
	switch {
	case !lockable(m):
		return 0, false, api.ErrArg
	case has:
		return 0, false, api.ErrTwice
	case i < 0 && len(p.heads) == p.most || p.live() == len(p.lent):
		return 0, false, api.ErrFull
	}
	if i < 0 {
		i = len(p.heads)
		p.heads = append(p.heads, api.Head{Name: n})
	}
	id := p.take()
	h, granted, _ := queue.Ask(p.heads[i], id, txn, m)
	p.heads[i] = h
	return id, granted, api.OK
}

func (p *plain) Upgrade(id int, m api.Mode) (bool, api.Errno) {
	i, j := p.where(id)
	switch {
	case !lockable(m):
		return false, api.ErrArg
	case i < 0:
		return false, api.ErrNone
	case p.heads[i].Queue[j].Since > 0:
		return false, api.ErrState
	}
	h, granted, _ := queue.Upgrade(p.heads[i], id, m)
	p.heads[i] = h
	return granted, api.OK
}

func (p *plain) Leave(id int) ([]int, api.Errno) {
	i, _ := p.where(id)
	if i < 0 {
		return nil, api.ErrNone
	}
	p.heads[i], _ = queue.Leave(p.heads[i], id)
	p.lent[id] = false
	return p.scan(i), api.OK
}

func (p *plain) Abandon(id int) ([]int, api.Errno) {
	i, j := p.where(id)
	if i < 0 {
		return nil, api.ErrNone
	}
	r := p.heads[i].Queue[j]
	switch {
	case r.Since == 0:
		return nil, api.ErrState
	case r.Mode == api.None:
		return p.Leave(id)
	}
	p.heads[i], _ = queue.Abandon(p.heads[i], id)
	return p.scan(i), api.OK
}

func (p *plain) Hand(id, txn int) api.Errno {
	i, j := p.where(id)
	if i < 0 {
		return api.ErrNone
	}
	n, r := p.heads[i].Name, p.heads[i].Queue[j]
	other, has := p.Find(n, txn)
	switch {
	case has && other != id:
		return api.ErrTwice
	case r.Since > 0:
		return api.ErrState
	}
	p.heads[i].Queue[j].Txn = txn
	return api.OK
}

func (p *plain) Get(id int) (api.Name, api.Request, bool) {
	i, j := p.where(id)
	if i < 0 {
		return api.Name{}, api.Request{}, false
	}
	return p.heads[i].Name, p.heads[i].Queue[j], true
}

func (p *plain) Find(n api.Name, txn int) (int, bool) {
	if i := p.of(n); i >= 0 {
		for _, r := range p.heads[i].Queue {
			if r.Txn == txn {
				return r.ID, true
			}
		}
	}
	return 0, false
}

// Heads takes the smallest name again and again.
func (p *plain) Heads() []api.Head {
	var sorted []api.Head
	for rest := slices.Clone(p.heads); len(rest) > 0; {
		least := 0
		for i, h := range rest {
			m := rest[least].Name
			if h.Name.Table < m.Table || h.Name.Table == m.Table && h.Name.Record < m.Record {
				least = i
			}
		}
		sorted = append(sorted, rest[least])
		rest = slices.Delete(rest, least, least+1)
	}
	return sorted
}
