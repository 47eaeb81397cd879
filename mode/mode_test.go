package mode_test

import (
	"math"
	"slices"
	"testing"

	"latchstring/api"
	"latchstring/mode"
)

// The modes by number: the tests do not trust All.
func known() []api.Mode { return []api.Mode{0, 1, 2, 3, 4, 5, 6} }

func unknown() []api.Mode {
	return []api.Mode{-1, -2, -6, -7, 7, 8, 13, 255, 256, math.MaxInt32, math.MinInt, math.MaxInt}
}

// anyMode is the known and the unknown ones.
func anyMode() []api.Mode { return append(known(), unknown()...) }

// The table of the chapter, with None added; a row for each mode, in the order of the numbers.
func compatibleTable() []string {
	return []string{
		"+++++++", // None
		"++++++.", // IS
		"+++....", // IX
		"++.+.+.", // S
		"++.....", // SIX
		"++.+...", // U
		"+......", // X
	}
}

// What covers what, as the chapter says it; the row covers the column.
func coversTable() []string {
	return []string{
		"+......", // None: itself
		"++.....", // IS: itself and None
		"+++....", // IX: IS
		"++.+...", // S: IS
		"+++++..", // SIX: IX, S, IS
		"++.+.+.", // U: S, IS
		"+++++++", // X: all
	}
}

func supTable() [7][7]api.Mode {
	return [7][7]api.Mode{
		{0, 1, 2, 3, 4, 5, 6},
		{1, 1, 2, 3, 4, 5, 6},
		{2, 2, 2, 4, 4, 6, 6},
		{3, 3, 4, 3, 4, 5, 6},
		{4, 4, 4, 4, 4, 6, 6},
		{5, 5, 6, 5, 6, 5, 6},
		{6, 6, 6, 6, 6, 6, 6},
	}
}

func TestP1_1Numbers(t *testing.T) {
	got := []api.Mode{api.None, api.IS, api.IX, api.S, api.SIX, api.U, api.X}
	if !slices.Equal(got, known()) {
		t.Errorf("modes: %v", got)
	}
}

func TestP1_1Known(t *testing.T) {
	for _, m := range known() {
		if !mode.Known(m) {
			t.Errorf("Known(%d) = false", m)
		}
	}
	for _, m := range unknown() {
		if mode.Known(m) {
			t.Errorf("Known(%d) = true", m)
		}
	}
}

func TestP1_1All(t *testing.T) {
	if got := mode.All(); !slices.Equal(got, known()) {
		t.Errorf("All() = %v", got)
	}
}

func TestP1_1AllIsNewMemory(t *testing.T) {
	a := mode.All()
	a = a[:cap(a)]
	for i := range a {
		a[i] = 99
	}
	if got := mode.All(); !slices.Equal(got, known()) {
		t.Errorf("All() after a change of what it returned: %v", got)
	}
}

func TestP1_1Compatible(t *testing.T) {
	for a, row := range compatibleTable() {
		for b := range row {
			if got := mode.Compatible(api.Mode(a), api.Mode(b)); got != (row[b] == '+') {
				t.Errorf("Compatible(%d, %d) = %v", a, b, got)
			}
		}
	}
}

func TestP1_1Covers(t *testing.T) {
	for a, row := range coversTable() {
		for b := range row {
			if got := mode.Covers(api.Mode(a), api.Mode(b)); got != (row[b] == '+') {
				t.Errorf("Covers(%d, %d) = %v", a, b, got)
			}
		}
	}
}

func TestP1_1Sup(t *testing.T) {
	for a, row := range supTable() {
		for b, want := range row {
			if got := mode.Sup(api.Mode(a), api.Mode(b)); got != want {
				t.Errorf("Sup(%d, %d) = %d, want %d", a, b, got, want)
			}
		}
	}
}

// The supremum covers both, and whatever else covers both covers it.
func TestP1_1SupIsSmallest(t *testing.T) {
	for _, a := range known() {
		for _, b := range known() {
			s := mode.Sup(a, b)
			if !mode.Covers(s, a) || !mode.Covers(s, b) {
				t.Errorf("Sup(%d, %d) = %d does not cover both", a, b, s)
			}
			for _, c := range known() {
				if mode.Covers(c, a) && mode.Covers(c, b) && !mode.Covers(c, s) {
					t.Errorf("Sup(%d, %d) = %d, but %d covers both, too", a, b, s, c)
				}
			}
		}
	}
}

func TestP1_1NamedPairs(t *testing.T) {
	for _, c := range []struct {
		a, b       api.Mode
		compatible bool
		sup        api.Mode
	}{
		{api.U, api.S, true, api.U},
		{api.IX, api.S, false, api.SIX},
		{api.IX, api.U, false, api.X},
		{api.SIX, api.U, false, api.X},
		{api.U, api.U, false, api.U},
		{api.None, api.X, true, api.X},
		{api.None, api.None, true, api.None},
	} {
		if got := mode.Compatible(c.a, c.b); got != c.compatible {
			t.Errorf("Compatible(%d, %d) = %v", c.a, c.b, got)
		}
		if got := mode.Sup(c.a, c.b); got != c.sup {
			t.Errorf("Sup(%d, %d) = %d, want %d", c.a, c.b, got, c.sup)
		}
	}
}

func TestP1_1UnknownInPairs(t *testing.T) {
	for _, u := range unknown() {
		for _, m := range anyMode() {
			for _, p := range [][2]api.Mode{{u, m}, {m, u}} {
				if mode.Compatible(p[0], p[1]) {
					t.Errorf("Compatible(%d, %d) = true", p[0], p[1])
				}
				if mode.Covers(p[0], p[1]) {
					t.Errorf("Covers(%d, %d) = true", p[0], p[1])
				}
				if got := mode.Sup(p[0], p[1]); got != api.None {
					t.Errorf("Sup(%d, %d) = %d", p[0], p[1], got)
				}
			}
		}
	}
}

func TestP1_1Group(t *testing.T) {
	for _, c := range []struct {
		l    []api.Mode
		want api.Mode
	}{
		{nil, api.None},
		{[]api.Mode{}, api.None},
		{[]api.Mode{api.None, api.None}, api.None},
		{[]api.Mode{api.IS, api.S, api.U}, api.U},
		{[]api.Mode{api.IX, api.S}, api.SIX},
		{[]api.Mode{api.S, api.None, api.IX, api.IS}, api.SIX},
		{[]api.Mode{api.IX, api.S, api.U}, api.X},
		{[]api.Mode{api.U, api.U}, api.U},
		{[]api.Mode{api.IS, api.IS, api.IS}, api.IS},
		{known(), api.X},
	} {
		before := slices.Clone(c.l)
		if got := mode.Group(c.l...); got != c.want {
			t.Errorf("Group(%v) = %d, want %d", c.l, got, c.want)
		}
		if !slices.Equal(c.l, before) {
			t.Errorf("Group changed %v to %v", before, c.l)
		}
	}
	if got := mode.Group(); got != api.None {
		t.Errorf("Group() = %d", got)
	}
}

func TestP1_1GroupOfOne(t *testing.T) {
	for _, m := range known() {
		if got := mode.Group(m); got != m {
			t.Errorf("Group(%d) = %d", m, got)
		}
	}
	for _, m := range unknown() {
		if got := mode.Group(m); got != api.None {
			t.Errorf("Group(%d) = %d", m, got)
		}
	}
}

// The Sup with an unknown mode is None, and what comes behind goes on from that.
func TestP1_1GroupWithUnknown(t *testing.T) {
	for _, u := range unknown() {
		for _, c := range []struct {
			l    []api.Mode
			want api.Mode
		}{
			{[]api.Mode{u, api.S}, api.S},
			{[]api.Mode{api.S, u}, api.None},
			{[]api.Mode{api.X, u, api.IS}, api.IS},
			{[]api.Mode{api.X, u, api.IX, api.S}, api.SIX},
			{[]api.Mode{u, u}, api.None},
		} {
			if got := mode.Group(c.l...); got != c.want {
				t.Errorf("Group(%v) = %d, want %d", c.l, got, c.want)
			}
		}
	}
}

func TestP1_1GroupIsSupOneByOne(t *testing.T) {
	for _, a := range anyMode() {
		for _, b := range anyMode() {
			for _, c := range anyMode() {
				want := mode.Sup(mode.Sup(mode.Sup(api.None, a), b), c)
				if got := mode.Group(a, b, c); got != want {
					t.Errorf("Group(%d, %d, %d) = %d, want %d", a, b, c, got, want)
				}
			}
		}
	}
}

func TestP1_1Parent(t *testing.T) {
	want := []api.Mode{api.None, api.IS, api.IX, api.IS, api.IX, api.IX, api.IX}
	for m, w := range want {
		if got := mode.Parent(api.Mode(m)); got != w {
			t.Errorf("Parent(%d) = %d, want %d", m, got, w)
		}
	}
	for _, m := range unknown() {
		if got := mode.Parent(m); got != api.None {
			t.Errorf("Parent(%d) = %d", m, got)
		}
	}
}

func TestP1_2Text(t *testing.T) {
	for m, want := range []string{"none", "IS", "IX", "S", "SIX", "U", "X"} {
		if got := mode.Text(api.Mode(m)); got != want {
			t.Errorf("Text(%d) = %q, want %q", m, got, want)
		}
		if got, e := mode.Read(want); got != api.Mode(m) || e != api.OK {
			t.Errorf("Read(%q) = %d, %d", want, got, e)
		}
	}
	for _, m := range unknown() {
		if got := mode.Text(m); got != "?" {
			t.Errorf("Text(%d) = %q", m, got)
		}
	}
}

func TestP1_2ReadOfOtherTexts(t *testing.T) {
	texts := []string{
		"", "?", " ", "\x00", "\xff", "0", "1", "6",
		"None", "NONE", "nonE", "is", "Is", "iX", "ix", "s", "six", "SiX", "Six", "u", "x",
		"non", "nones", "I", "SI", "ISX", "SS", "XX", "S,X", "IS|IX", "SIXX",
		"\u0425", "\u0405", "U\u0301",
	}
	for _, m := range known() {
		s := mode.Text(m)
		texts = append(texts, " "+s, s+" ", " "+s+" ", "\t"+s, s+"\n", s+"\x00", "\""+s+"\"")
	}
	for _, s := range texts {
		if m, e := mode.Read(s); m != api.None || e != api.ErrText {
			t.Errorf("Read(%q) = %d, %d", s, m, e)
		}
	}
}

func TestP1_3CompatibleIsSymmetric(t *testing.T) {
	for _, a := range anyMode() {
		for _, b := range anyMode() {
			if mode.Compatible(a, b) != mode.Compatible(b, a) {
				t.Errorf("Compatible(%d, %d) depends on the order", a, b)
			}
		}
	}
}

func TestP1_3CompatibleWithWhatIsCovered(t *testing.T) {
	for _, a := range anyMode() {
		for _, b := range anyMode() {
			for _, c := range anyMode() {
				if mode.Compatible(a, b) && mode.Covers(b, c) && !mode.Compatible(a, c) {
					t.Errorf("%d is compatible with %d, but not with %d, which that one covers", a, b, c)
				}
			}
		}
	}
}

func TestP1_3SupDoesNotDependOnTheOrder(t *testing.T) {
	for _, a := range anyMode() {
		for _, b := range anyMode() {
			if mode.Sup(a, b) != mode.Sup(b, a) {
				t.Errorf("Sup(%d, %d) depends on the order", a, b)
			}
			for _, c := range known() {
				if !mode.Known(a) || !mode.Known(b) {
					continue
				}
				if x, y := mode.Group(a, b, c), mode.Group(c, b, a); x != y {
					t.Errorf("Group of %d, %d, %d depends on the order: %d, %d", a, b, c, x, y)
				}
			}
		}
	}
}

func TestExamples(t *testing.T) {
	if got := mode.Sup(api.IX, api.S); got != api.SIX {
		t.Errorf("Sup(IX, S) = %d", got)
	}
	if !mode.Compatible(api.U, api.S) {
		t.Error("Compatible(U, S) = false")
	}
	if mode.Compatible(api.U, api.U) {
		t.Error("Compatible(U, U) = true")
	}
	if got := mode.Parent(api.U); got != api.IX {
		t.Errorf("Parent(U) = %d", got)
	}
}
