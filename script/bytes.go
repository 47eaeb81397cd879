package script

import (
	"iter"
	"strings"

	"latchstring/api"
)

// The kinds of entries, which are their first bytes.
const (
	capsKind byte = iota + 1
	opKind
	pickKind
)

// entry returns the bytes of an entry: what comes behind its fields is 0.
func entry(kind byte, fields ...int) string {
	var e [api.EntrySize]byte
	e[0] = kind
	for i, f := range fields {
		e[i+1] = byte(f)
	}
	return string(e[:])
}

func capsEntry(c api.Caps, threads int) string {
	return entry(capsKind, c.Stripes, c.Heads, c.Requests, c.Pool, threads)
}

func opEntry(thread int, o api.Op) string {
	return entry(opKind, thread, o.Kind, o.Name.Table+1, o.Name.Record+1, int(o.Mode), int(o.Value), int(o.Wait))
}

func pickEntry(p api.Pick) string { return entry(pickKind, p.Kind, p.Who) }

// Bytes returns the bytes of s, ErrArg if s is not valid.
func Bytes(s api.Script) (string, api.Errno) {
	if e := Check(s); e != api.OK {
		return "", e
	}
	var b strings.Builder
	b.WriteString(capsEntry(s.Caps, len(s.Threads)))
	for thread, ops := range s.Threads {
		for _, o := range ops {
			b.WriteString(opEntry(thread, o))
		}
	}
	for _, p := range s.Picks {
		b.WriteString(pickEntry(p))
	}
	return b.String(), api.OK
}

// Each yields the entries of b, without what is too short for one at the end.
func Each(b string) iter.Seq[string] {
	return func(yield func(string) bool) {
		for rest := b; len(rest) >= api.EntrySize; rest = rest[api.EntrySize:] {
			if !yield(rest[:api.EntrySize]) {
				return
			}
		}
	}
}

// Read returns the script that the bytes represent; what would make it invalid is ignored.
func Read(b string) api.Script {
	s := api.Script{Caps: Caps()}
	createThreads(&s, 1)
	for e := range Each(b) {
		add(&s, e)
	}
	return s
}

// add lets an entry have its effect on s.
func add(s *api.Script, e string) {
	switch e[0] {
	case capsKind:
		addCaps(s, e)
	case opKind:
		addOp(s, e)
	case pickKind:
		addPick(s, e)
	}
}

func addCaps(s *api.Script, e string) {
	c := api.Caps{Stripes: int(e[1]), Heads: int(e[2]), Requests: int(e[3]), Pool: int(e[4])}
	threads := int(e[5])
	if capsAllowed(c) && threadsAllowed(threads) && capsEntry(c, threads) == e {
		s.Caps = c
		createThreads(s, threads)
	}
}

func addOp(s *api.Script, e string) {
	thread, o, is := Entry(e)
	if !is {
		return
	}
	createThreads(s, thread+1)
	if len(s.Threads[thread]) < api.MaxOps {
		s.Threads[thread] = append(s.Threads[thread], o)
	}
}

func addPick(s *api.Script, e string) {
	p := api.Pick{Kind: int(e[1]), Who: int(e[2])}
	if len(s.Picks) < api.MaxPicks && !wrongPick(p) && pickEntry(p) == e {
		s.Picks = append(s.Picks, p)
	}
}

// createThreads lets s have at least n threads.
func createThreads(s *api.Script, n int) {
	for len(s.Threads) < n {
		s.Threads = append(s.Threads, nil)
	}
}

// Entry returns the thread and the operation of an entry, and whether it is that of a valid operation of a thread that there can be.
func Entry(b string) (thread int, o api.Op, is bool) {
	if len(b) != api.EntrySize || b[0] != opKind || b[1] >= api.MaxThreads {
		return 0, api.Op{}, false
	}
	o = api.Op{
		Kind:  int(b[2]),
		Name:  api.Name{Table: int(b[3]) - 1, Record: int(b[4]) - 1},
		Mode:  api.Mode(b[5]),
		Value: int64(b[6]),
		Wait:  int64(b[7]),
	}
	if Op(o) != api.OK {
		return 0, api.Op{}, false
	}
	return int(b[1]), o, true
}
