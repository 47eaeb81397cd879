package automaton_test

import (
	"math"

	"latchstring/api"
	"latchstring/mode"
	"latchstring/name"
)

const (
	none = api.None
	is   = api.IS
	ix   = api.IX
	s    = api.S
	six  = api.SIX
	u    = api.U
	x    = api.X
)

func db() api.Name { return api.Name{Table: -1, Record: -1} }

func table(t int) api.Name { return api.Name{Table: t, Record: -1} }

func record(t, r int) api.Name { return api.Name{Table: t, Record: r} }

// wrongNames are not valid, but for their neighbours.
func wrongNames() []api.Name {
	return []api.Name{
		{Table: -1, Record: 0}, {Table: -2, Record: -1}, {Table: -1, Record: -2}, {Table: 100, Record: -1},
		{Table: 100, Record: 0}, {Table: 0, Record: 100}, {Table: 0, Record: -2},
		{Table: math.MinInt, Record: math.MaxInt}, {Table: math.MaxInt, Record: -1},
	}
}

func wrongModes() []api.Mode {
	return []api.Mode{none, -1, 7, math.MinInt, math.MaxInt}
}

func held(txn int, n api.Name, m api.Mode) api.Held { return api.Held{Txn: txn, Name: n, Mode: m} }

func list(l ...api.Held) []api.Held { return l }

func acquire(txn int, n api.Name, m api.Mode, code int) api.Act {
	return api.Act{Kind: api.ActAcquire, Txn: txn, Name: n, Mode: m, Code: code}
}

func release(txn int, n api.Name, code int) api.Act {
	return api.Act{Kind: api.ActRelease, Txn: txn, Name: n, Code: code}
}

func releaseAll(txn int, code int) api.Act {
	return api.Act{Kind: api.ActReleaseAll, Txn: txn, Code: code}
}

func pass(txn int, n api.Name, code int) api.Act {
	return api.Act{Kind: api.ActPass, Txn: txn, Name: n, Code: code}
}

// This is the chapter's words, read one by one.

func plainLess(a, b api.Held) bool {
	if a.Txn != b.Txn {
		return a.Txn < b.Txn
	}
	if a.Name.Table != b.Name.Table {
		return a.Name.Table < b.Name.Table
	}
	return a.Name.Record < b.Name.Record
}

func plainState(l []api.Held) bool {
	for i, a := range l {
		if a.Mode < is || a.Mode > x || name.Check(a.Name) != api.OK {
			return false
		}
		for _, b := range l[i+1:] {
			if !plainLess(a, b) {
				return false
			}
		}
	}
	return true
}

func plainValid(l []api.Held) bool {
	for _, a := range l {
		for _, b := range l {
			if a.Name == b.Name && a.Txn != b.Txn && !mode.Compatible(a.Mode, b.Mode) {
				return false
			}
		}
	}
	return plainState(l)
}

func plainMode(l []api.Held, txn int, n api.Name) api.Mode {
	m := none
	for i := len(l) - 1; i >= 0; i-- {
		if l[i].Txn == txn && l[i].Name == n {
			m = l[i].Mode
		}
	}
	return m
}

func plainMay(l []api.Held, txn int, n api.Name, m api.Mode) bool {
	if name.Check(n) != api.OK || m < is || m > x {
		return false
	}
	for _, h := range l {
		if h.Name == n && h.Txn != txn && !mode.Compatible(mode.Sup(plainMode(l, txn, n), m), h.Mode) {
			return false
		}
	}
	return true
}

// plainWithout leaves out what txn holds of n.
func plainWithout(l []api.Held, txn int, n api.Name) []api.Held {
	var out []api.Held
	for _, h := range l {
		if h.Txn != txn || h.Name != n {
			out = append(out, h)
		}
	}
	return out
}

// plainWith puts an element before the first one that is greater.
func plainWith(l []api.Held, e api.Held) []api.Held {
	var out []api.Held
	for i, h := range l {
		if plainLess(e, h) {
			return append(append(out, e), l[i:]...)
		}
		out = append(out, h)
	}
	return append(out, e)
}

// plainGranted is the state after an act that is granted.
func plainGranted(l []api.Held, a api.Act) []api.Held {
	switch a.Kind {
	case api.ActAcquire:
		m := mode.Sup(plainMode(l, a.Txn, a.Name), a.Mode)
		return plainWith(plainWithout(l, a.Txn, a.Name), held(a.Txn, a.Name, m))
	case api.ActReleaseAll:
		var out []api.Held
		for _, h := range l {
			if h.Txn != a.Txn {
				out = append(out, h)
			}
		}
		return out
	}
	return plainWithout(l, a.Txn, a.Name)
}

// plainCan reports whether an act can have the result of its code.
func plainCan(l []api.Held, a api.Act) bool {
	holds := plainMode(l, a.Txn, a.Name) != none
	switch a.Kind {
	case api.ActAcquire:
		wrong := name.Check(a.Name) != api.OK || a.Mode < is || a.Mode > x
		switch a.Code {
		case api.Granted:
			return plainMay(l, a.Txn, a.Name, a.Mode)
		case api.Timeout, api.Cancelled, api.Deadlock, api.Full:
			return !wrong
		case api.Misuse:
			return wrong
		}
	case api.ActRelease:
		return a.Code == api.Granted && holds || a.Code == api.Misuse && !holds
	case api.ActReleaseAll:
		return a.Code == api.Granted
	case api.ActPass:
		return a.Code == api.Granted && holds
	}
	return false
}

func plainStep(l []api.Held, a api.Act) ([]api.Held, bool) {
	if !plainValid(l) || !plainCan(l, a) {
		return nil, false
	}
	if a.Code == api.Granted {
		return plainGranted(l, a), true
	}
	return l, true
}

func plainCodes(l []api.Held, a api.Act) []int {
	var codes []int
	for a.Code = -3; a.Code < 12; a.Code++ {
		if plainValid(l) && plainCan(l, a) {
			codes = append(codes, a.Code)
		}
	}
	return codes
}

func plainRun(l []api.Held, acts []api.Act) ([]api.Held, int, bool) {
	if !plainValid(l) {
		return nil, 0, false
	}
	for i, a := range acts {
		next, ok := plainStep(l, a)
		if !ok {
			return nil, i, false
		}
		l = next
	}
	return l, 0, true
}
