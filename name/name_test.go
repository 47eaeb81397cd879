package name_test

import (
	"math"
	"slices"
	"strconv"
	"strings"
	"testing"

	"latchstring/api"
	"latchstring/name"
)

// The tests write the names as they are, and do not trust the functions that make them.
func db() api.Name { return api.Name{Table: -1, Record: -1} }

func tab(t int) api.Name { return api.Name{Table: t, Record: -1} }

func rec(t, r int) api.Name { return api.Name{Table: t, Record: r} }

// inside and outside are numbers that tables and records have, and that they do not have.
func inside() []int { return []int{0, 1, 2, 9, 10, 42, 98, 99} }

func outside() []int {
	return []int{-1, -2, -3, -99, -100, 100, 101, 255, 1000, math.MaxInt32, math.MinInt32, math.MaxInt - 1, math.MaxInt, math.MinInt, math.MinInt + 1}
}

func allNumbers() []int { return append(inside(), outside()...) }

// valid is all valid names in order: the database, and each table followed by its records.
func valid() []api.Name {
	l := []api.Name{db()}
	for t := range 100 {
		l = append(l, tab(t))
		for r := range 100 {
			l = append(l, rec(t, r))
		}
	}
	return l
}

// someValid is names of each level, some of which are above, beside and below others.
func someValid() []api.Name {
	return []api.Name{
		db(), tab(0), tab(1), tab(3), tab(98), tab(99),
		rec(0, 0), rec(0, 1), rec(0, 99), rec(1, 0), rec(1, 1), rec(3, 7), rec(3, 8), rec(7, 3), rec(99, 0), rec(99, 98), rec(99, 99),
	}
}

func notValid() []api.Name {
	l := []api.Name{
		{Table: -2, Record: -1}, {Table: -1, Record: -2}, {Table: -2, Record: -2},
		{Table: -1, Record: 0}, {Table: -1, Record: 7}, {Table: -1, Record: 99}, {Table: -1, Record: 100},
		{Table: 100, Record: 100}, {Table: 99, Record: 100}, {Table: 100, Record: 99},
		{Table: 100, Record: -1}, {Table: 3, Record: -2},
		{Table: math.MaxInt, Record: math.MaxInt}, {Table: math.MinInt, Record: math.MinInt},
		{Table: math.MinInt, Record: math.MaxInt}, {Table: math.MaxInt, Record: math.MinInt},
	}
	for _, i := range outside() {
		for _, j := range []int{0, 3, 99} {
			l = append(l, rec(i, j))
			if i != -1 {
				l = append(l, rec(j, i))
			}
		}
		if i != -1 {
			l = append(l, tab(i), rec(-1, i))
		}
	}
	return l
}

func someNames() []api.Name { return append(someValid(), notValid()...) }

func TestP2_1Database(t *testing.T) {
	if got := name.Database(); got != db() {
		t.Errorf("Database() = %v", got)
	}
	if name.Check(name.Database()) != api.OK {
		t.Error("the database is not valid")
	}
}

func TestP2_1Table(t *testing.T) {
	for i := range 100 {
		if got, e := name.Table(i); got != tab(i) || e != api.OK {
			t.Errorf("Table(%d) = %v, %d", i, got, e)
		}
	}
	for _, i := range outside() {
		if got, e := name.Table(i); got != (api.Name{}) || e != api.ErrArg {
			t.Errorf("Table(%d) = %v, %d", i, got, e)
		}
	}
}

func TestP2_1Record(t *testing.T) {
	for i := range 100 {
		for j := range 100 {
			if got, e := name.Record(i, j); got != rec(i, j) || e != api.OK {
				t.Errorf("Record(%d, %d) = %v, %d", i, j, got, e)
			}
		}
	}
}

func TestP2_1RecordOutside(t *testing.T) {
	for _, i := range outside() {
		for _, j := range allNumbers() {
			for _, p := range [][2]int{{i, j}, {j, i}} {
				if got, e := name.Record(p[0], p[1]); got != (api.Name{}) || e != api.ErrArg {
					t.Errorf("Record(%d, %d) = %v, %d", p[0], p[1], got, e)
				}
			}
		}
	}
}

func TestP2_1CheckAndLevel(t *testing.T) {
	for _, n := range valid() {
		want := 2
		if n.Record == -1 {
			want = 1
		}
		if n.Table == -1 {
			want = 0
		}
		if got, e := name.Level(n), name.Check(n); got != want || e != api.OK {
			t.Errorf("Level(%v) = %d, Check = %d", n, got, e)
		}
	}
	for _, n := range notValid() {
		if got, e := name.Level(n), name.Check(n); got != -1 || e != api.ErrArg {
			t.Errorf("Level(%v) = %d, Check = %d", n, got, e)
		}
	}
}

// All names around the edges: those that are valid are exactly those of the list.
func TestP2_1CheckAroundTheEdges(t *testing.T) {
	is := map[api.Name]bool{}
	for _, n := range valid() {
		is[n] = true
	}
	for i := -4; i < 105; i++ {
		for j := -4; j < 105; j++ {
			n := rec(i, j)
			if got := name.Check(n) == api.OK; got != is[n] {
				t.Errorf("Check(%v): valid %v", n, got)
			}
			if got := name.Level(n) >= 0; got != is[n] {
				t.Errorf("Level(%v) = %d", n, name.Level(n))
			}
		}
	}
}

func TestP2_1Parent(t *testing.T) {
	for i := range 100 {
		if p, is := name.Parent(tab(i)); p != db() || !is {
			t.Errorf("Parent(%v) = %v, %v", tab(i), p, is)
		}
		for j := range 100 {
			if p, is := name.Parent(rec(i, j)); p != tab(i) || !is {
				t.Errorf("Parent(%v) = %v, %v", rec(i, j), p, is)
			}
		}
	}
	for _, n := range append(notValid(), db()) {
		if p, is := name.Parent(n); p != (api.Name{}) || is {
			t.Errorf("Parent(%v) = %v, %v", n, p, is)
		}
	}
}

func TestP2_1Ancestors(t *testing.T) {
	for i := range 100 {
		if l := name.Ancestors(tab(i)); !slices.Equal(l, []api.Name{db()}) {
			t.Errorf("Ancestors(%v) = %v", tab(i), l)
		}
		for j := range 100 {
			if l := name.Ancestors(rec(i, j)); !slices.Equal(l, []api.Name{db(), tab(i)}) {
				t.Errorf("Ancestors(%v) = %v", rec(i, j), l)
			}
		}
	}
	for _, n := range append(notValid(), db()) {
		if l := name.Ancestors(n); len(l) != 0 {
			t.Errorf("Ancestors(%v) = %v", n, l)
		}
	}
}

func TestP2_1AncestorsAreNewMemory(t *testing.T) {
	for _, n := range []api.Name{db(), tab(3), rec(3, 7)} {
		want := slices.Clone(name.Ancestors(n))
		l := name.Ancestors(n)
		l = l[:cap(l)]
		for i := range l {
			l[i] = rec(55, 55)
		}
		if got := name.Ancestors(n); !slices.Equal(got, want) {
			t.Errorf("Ancestors(%v) after a change of what it returned: %v", n, got)
		}
	}
}

func TestP2_1Under(t *testing.T) {
	for _, c := range []struct {
		n, m api.Name
		want bool
	}{
		{db(), db(), true}, {db(), tab(3), false}, {db(), rec(3, 7), false},
		{tab(3), db(), true}, {tab(3), tab(3), true}, {tab(3), tab(4), false}, {tab(3), rec(3, 7), false}, {tab(3), rec(4, 7), false},
		{rec(3, 7), db(), true}, {rec(3, 7), tab(3), true}, {rec(3, 7), tab(7), false}, {rec(3, 7), tab(4), false},
		{rec(3, 7), rec(3, 7), true}, {rec(3, 7), rec(3, 8), false}, {rec(3, 7), rec(4, 7), false}, {rec(3, 7), rec(7, 3), false},
		{rec(0, 0), tab(0), true}, {rec(99, 99), tab(99), true}, {rec(0, 0), rec(0, 0), true}, {tab(0), tab(0), true},
	} {
		if got := name.Under(c.n, c.m); got != c.want {
			t.Errorf("Under(%v, %v) = %v", c.n, c.m, got)
		}
	}
}

// Of valid names, n is under m if m has n's numbers as far as it has numbers at all.
func TestP2_1UnderOfAllPairs(t *testing.T) {
	for _, n := range someValid() {
		for _, m := range someValid() {
			want := (m.Table == -1 || m.Table == n.Table) && (m.Record == -1 || m.Record == n.Record)
			if got := name.Under(n, m); got != want {
				t.Errorf("Under(%v, %v) = %v", n, m, got)
			}
		}
	}
}

func TestP2_1UnderOfNotValid(t *testing.T) {
	for _, n := range notValid() {
		for _, m := range someNames() {
			if name.Under(n, m) {
				t.Errorf("Under(%v, %v) = true", n, m)
			}
			if name.Under(m, n) {
				t.Errorf("Under(%v, %v) = true", m, n)
			}
		}
	}
}

func TestP2_2Compare(t *testing.T) {
	for _, c := range []struct {
		a, b api.Name
		want int
	}{
		{db(), db(), 0}, {tab(3), tab(3), 0}, {rec(3, 7), rec(3, 7), 0},
		{db(), tab(0), -1}, {db(), rec(0, 0), -1}, {tab(3), rec(3, 0), -1}, {rec(3, 99), tab(4), -1},
		{tab(3), tab(4), -1}, {tab(9), tab(10), -1}, {rec(3, 7), rec(3, 8), -1}, {rec(3, 9), rec(3, 10), -1},
		{rec(3, 7), rec(4, 7), -1}, {rec(3, 7), rec(4, 8), -1}, {rec(3, 8), rec(4, 7), -1}, {rec(9, 99), rec(10, 0), -1},
	} {
		if got := name.Compare(c.a, c.b); got != c.want {
			t.Errorf("Compare(%v, %v) = %d", c.a, c.b, got)
		}
		if got := name.Compare(c.b, c.a); got != -c.want {
			t.Errorf("Compare(%v, %v) = %d", c.b, c.a, got)
		}
	}
}

func TestP2_2CompareOfNotValid(t *testing.T) {
	for _, c := range []struct {
		a, b api.Name
		want int
	}{
		{rec(-1, -2), db(), -1}, {tab(-2), db(), -1}, {rec(-2, 100), db(), -1}, {db(), rec(-1, 0), -1}, {rec(-1, 100), tab(0), -1},
		{tab(99), tab(100), -1}, {rec(99, 99), rec(99, 100), -1}, {rec(3, -2), tab(3), -1}, {rec(3, 1000), tab(4), -1},
		{tab(100), tab(100), 0}, {rec(-1, 7), rec(-1, 7), 0},
		// A difference of these would overflow.
		{tab(math.MinInt), tab(math.MaxInt), -1}, {tab(math.MinInt), tab(1), -1}, {tab(-2), tab(math.MaxInt), -1},
		{rec(3, math.MinInt), rec(3, math.MaxInt), -1}, {rec(3, math.MinInt), rec(3, 1), -1}, {rec(3, -2), rec(3, math.MaxInt), -1},
		{rec(math.MinInt, math.MaxInt), rec(math.MaxInt, math.MinInt), -1}, {rec(math.MaxInt, math.MinInt), rec(math.MaxInt, math.MinInt), 0},
	} {
		if got := name.Compare(c.a, c.b); got != c.want {
			t.Errorf("Compare(%v, %v) = %d", c.a, c.b, got)
		}
		if got := name.Compare(c.b, c.a); got != -c.want {
			t.Errorf("Compare(%v, %v) = %d", c.b, c.a, got)
		}
	}
}

func TestP2_2CompareOfAllPairs(t *testing.T) {
	for _, a := range someNames() {
		for _, b := range someNames() {
			want := 0
			switch {
			case a.Table < b.Table || a.Table == b.Table && a.Record < b.Record:
				want = -1
			case a != b:
				want = 1
			}
			if got := name.Compare(a, b); got != want {
				t.Errorf("Compare(%v, %v) = %d, want %d", a, b, got, want)
			}
		}
	}
}

func TestP2_2CompareSorts(t *testing.T) {
	want := valid()
	l := slices.Clone(want)
	slices.Reverse(l)
	slices.SortFunc(l, name.Compare)
	if !slices.Equal(l, want) {
		t.Error("the valid names are sorted in another order")
	}
}

func TestP2_2TextAndRead(t *testing.T) {
	for s, n := range map[string]api.Name{
		"db": db(), "t0": tab(0), "t3": tab(3), "t10": tab(10), "t99": tab(99),
		"t0.r0": rec(0, 0), "t0.r99": rec(0, 99), "t99.r0": rec(99, 0), "t99.r99": rec(99, 99), "t3.r7": rec(3, 7), "t10.r10": rec(10, 10),
	} {
		if got := name.Text(n); got != s {
			t.Errorf("Text(%v) = %q, want %q", n, got, s)
		}
		if got, e := name.Read(s); got != n || e != api.OK {
			t.Errorf("Read(%q) = %v, %d", s, got, e)
		}
	}
}

func TestP2_2TextOfNotValid(t *testing.T) {
	for _, n := range notValid() {
		if got := name.Text(n); got != "?" {
			t.Errorf("Text(%v) = %q", n, got)
		}
	}
}

// otherTexts is texts that no valid name has.
func otherTexts() []string {
	l := []string{
		"", " ", "?", ".", "..", ".r", ".r7", "\x00", "\xff", "-1", "3", "37", "3.7",
		"d", "b", "DB", "Db", "dB", "dbs", "dbdb", "db0", "db.", "db.r", "db.r1", "db.t3", "db.t3.r7", "t-1.r-1",
		"t", "t.", "t.r", "t.r7", "t-", "t+", "t-1", "t-0", "t+0", "t+3", "t--3", "t-3", "t100", "t999", "t00", "t03", "t003", "t0x3", "t3x", "tt3", "t 3",
		"t1_0", "t1e1", "t3.0", "t3,", "t3.", "t3..", "t3r7", "t3,r7", "t3..r7", "t3.7", "t3.r", "t3.rr7", "t3.r.", "t3.r.7", "t3.r7.", "t3.r7.r7", "t3.r7.r", "t3.r7.t3", "t3.t7",
		"t3.r-1", "t3.r-0", "t3.r+7", "t3.r07", "t3.r007", "t3.r00", "t3.r100", "t3.r999", "t3.r0x7", "t3.r7x", "t3.r 7", "t3 .r7", "t3. r7", "t3.r1_0",
		"t100.r7", "t100.r100", "t-1.r7", "t+3.r7", "t03.r7", "t03.r07", "t3.R7", "T3.r7", "T3", "R7", "r7", "r7.t3",
		"t2147483648", "t4294967299", "t9223372036854775807", "t9223372036854775808", "t18446744073709551619", "t-9223372036854775808",
		"t3.r9223372036854775808", "t3.r18446744073709551623",
		"t" + strings.Repeat("0", 1000) + "3", "t" + strings.Repeat("9", 1000), "t3.r" + strings.Repeat("9", 1000),
		"t\u0663", "t3.r\u0667", "t\uff13", "\u01033", "t3\u2024r7",
	}
	for _, s := range []string{"db", "t3", "t3.r7"} {
		for _, x := range []string{" ", "\t", "\n", "\r\n", "\x00", "\"", "\u00a0", "\ufeff"} {
			l = append(l, x+s, s+x, x+s+x)
		}
	}
	return l
}

func TestP2_2ReadOfOtherTexts(t *testing.T) {
	for _, s := range otherTexts() {
		if n, e := name.Read(s); n != (api.Name{}) || e != api.ErrText {
			t.Errorf("Read(%q) = %v, %d", s, n, e)
		}
	}
}

// A byte more, a byte less, or another byte: the text is another name's, or none's.
func TestP2_2ReadOfChangedTexts(t *testing.T) {
	is := map[string]api.Name{}
	for _, n := range valid() {
		is[textOf(n)] = n
	}
	for _, s := range []string{"db", "t0", "t9", "t42", "t99", "t0.r0", "t9.r42", "t42.r9", "t99.r99"} {
		for i := range len(s) + 1 {
			for b := range 256 {
				checkRead(t, is, s[:i]+string([]byte{byte(b)})+s[i:])
				if i < len(s) {
					checkRead(t, is, s[:i]+string([]byte{byte(b)})+s[i+1:])
				}
			}
			checkRead(t, is, s[:i])
			checkRead(t, is, s[i:])
		}
	}
}

func textOf(n api.Name) string {
	switch {
	case n.Table == -1:
		return "db"
	case n.Record == -1:
		return "t" + strconv.Itoa(n.Table)
	}
	return "t" + strconv.Itoa(n.Table) + ".r" + strconv.Itoa(n.Record)
}

func checkRead(t *testing.T, is map[string]api.Name, s string) {
	t.Helper()
	n, there := is[s]
	e := api.OK
	if !there {
		e = api.ErrText
	}
	if got, f := name.Read(s); got != n || f != e {
		t.Errorf("Read(%q) = %v, %d, want %v, %d", s, got, f, n, e)
	}
}

func TestP2_3ReadOfText(t *testing.T) {
	seen := map[string]api.Name{}
	for _, n := range valid() {
		s := name.Text(n)
		if s != textOf(n) {
			t.Errorf("Text(%v) = %q", n, s)
		}
		if m, there := seen[s]; there {
			t.Errorf("%v and %v have the same text %q", m, n, s)
		}
		seen[s] = n
		if got, e := name.Read(s); got != n || e != api.OK {
			t.Errorf("Read(%q) = %v, %d", s, got, e)
		}
	}
}

func TestP2_3AncestorsComeBefore(t *testing.T) {
	for _, n := range valid() {
		l := append(name.Ancestors(n), n)
		if len(l) != name.Level(n)+1 {
			t.Errorf("Ancestors(%v) = %v", n, l[:len(l)-1])
		}
		for i := 1; i < len(l); i++ {
			if name.Compare(l[i-1], l[i]) != -1 || name.Compare(l[i], l[i-1]) != 1 {
				t.Errorf("%v does not come before %v", l[i-1], l[i])
			}
			if p, is := name.Parent(l[i]); p != l[i-1] || !is {
				t.Errorf("Parent(%v) = %v, %v", l[i], p, is)
			}
			if !name.Under(n, l[i-1]) || name.Under(l[i-1], n) {
				t.Errorf("%v is not under %v", n, l[i-1])
			}
		}
	}
}

func TestExamples(t *testing.T) {
	n, e := name.Record(3, 7)
	if e != api.OK {
		t.Fatalf("Record(3, 7): %d", e)
	}
	table, e := name.Table(3)
	if e != api.OK {
		t.Fatalf("Table(3): %d", e)
	}
	if l := name.Ancestors(n); !slices.Equal(l, []api.Name{name.Database(), table}) {
		t.Errorf("Ancestors(record 3, 7) = %v", l)
	}
	if name.Text(name.Database()) != "db" || name.Text(table) != "t3" {
		t.Errorf("texts of the ancestors: %q, %q", name.Text(name.Database()), name.Text(table))
	}
	if s := name.Text(n); s != "t3.r7" {
		t.Errorf("Text(record 3, 7) = %q", s)
	}
}
