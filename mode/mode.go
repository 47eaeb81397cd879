// Package mode is layer 1, the modes of locks: see shared/doc/01-mode.md.
package mode

import (
	"latchstring/api"
)

// The modes are numbered without gaps, so they are the indexes of the tables.
const count = api.X + 1

// Known reports whether there is such a mode.
func Known(m api.Mode) bool { return m >= api.None && m < count }

// All returns the modes in ascending order.
func All() []api.Mode {
	return []api.Mode{api.None, api.IS, api.IX, api.S, api.SIX, api.U, api.X}
}

// Compatible reports whether two transactions can hold a and b at the same time.
func Compatible(a, b api.Mode) bool {
	if !Known(a) || !Known(b) {
		return false
	}
	pairs := [count][count]bool{
		//        None  IS     IX     S      SIX    U      X
		api.None: {true, true, true, true, true, true, true},
		api.IS:   {true, true, true, true, true, true, false},
		api.IX:   {true, true, true, false, false, false, false},
		api.S:    {true, true, false, true, false, true, false},
		api.SIX:  {true, true, false, false, false, false, false},
		api.U:    {true, true, false, true, false, false, false},
		api.X:    {true, false, false, false, false, false, false},
	}
	return pairs[a][b]
}

// Sup returns the smallest mode that covers both (None if one is unknown).
func Sup(a, b api.Mode) api.Mode {
	if !Known(a) || !Known(b) {
		return api.None
	}
	pairs := [count][count]api.Mode{
		//         None      IS       IX       S        SIX      U      X
		api.None: {api.None, api.IS, api.IX, api.S, api.SIX, api.U, api.X},
		api.IS:   {api.IS, api.IS, api.IX, api.S, api.SIX, api.U, api.X},
		api.IX:   {api.IX, api.IX, api.IX, api.SIX, api.SIX, api.X, api.X},
		api.S:    {api.S, api.S, api.SIX, api.S, api.SIX, api.U, api.X},
		api.SIX:  {api.SIX, api.SIX, api.SIX, api.SIX, api.SIX, api.X, api.X},
		api.U:    {api.U, api.U, api.X, api.U, api.X, api.U, api.X},
		api.X:    {api.X, api.X, api.X, api.X, api.X, api.X, api.X},
	}
	return pairs[a][b]
}

// Covers reports whether a permits everything that b permits.
func Covers(a, b api.Mode) bool {
	// Sup answers None for an unknown mode, and None is a possible a.
	return Known(a) && Known(b) && Sup(a, b) == a
}

// Group returns the supremum of the modes, taken one after the other.
func Group(l ...api.Mode) api.Mode {
	sum := api.None
	for _, m := range l {
		sum = Sup(sum, m)
	}
	return sum
}

// Parent returns the mode in which the names above have to be locked.
func Parent(m api.Mode) api.Mode {
	switch m {
	case api.IS, api.S:
		return api.IS
	case api.IX, api.SIX, api.U, api.X:
		return api.IX
	}
	return api.None
}

// Text returns the text of a mode.
func Text(m api.Mode) string {
	if !Known(m) {
		return "?"
	}
	texts := [count]string{"none", "IS", "IX", "S", "SIX", "U", "X"}
	return texts[m]
}

// Read returns the mode that has the text s.
func Read(s string) (api.Mode, api.Errno) {
	for _, m := range All() {
		if Text(m) == s {
			return m, api.OK
		}
	}
	return api.None, api.ErrText
}
