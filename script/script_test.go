package script_test

import (
	"math"
	"slices"
	"testing"

	"latchstring/api"
	"latchstring/script"
)

// The limits as the chapter says them.
const (
	mostThreads  = 8
	mostOps      = 32
	mostPicks    = 4096
	mostStripes  = 16
	mostHeads    = 64
	mostRequests = 128
	mostPool     = 8
	size         = 8
)

// The tests write names as they are.
func db() api.Name { return api.Name{Table: -1, Record: -1} }

func tab(t int) api.Name { return api.Name{Table: t, Record: -1} }

func rec(t, r int) api.Name { return api.Name{Table: t, Record: r} }

func noNames() []api.Name {
	return []api.Name{
		rec(-1, 0), rec(-1, 99), rec(-2, -1), rec(-1, -2), rec(-2, 0), rec(0, -2), rec(100, 0), rec(0, 100), tab(100),
		rec(99, 100), rec(255, 255), rec(256, 256), tab(256), tab(1 << 32), rec(math.MaxInt, math.MaxInt),
		rec(math.MinInt, math.MinInt), tab(math.MinInt), rec(0, math.MinInt), rec(0, math.MaxInt),
	}
}

// What a kind of operations has, as the chapter's words say it.
type rule struct {
	names []api.Name
	modes []api.Mode
	value bool
	wait  bool
}

func databases() []api.Name { return []api.Name{db()} }

func tables() []api.Name { return []api.Name{tab(0), tab(1), tab(42), tab(98), tab(99)} }

func records() []api.Name {
	return []api.Name{rec(0, 0), rec(0, 1), rec(1, 0), rec(3, 7), rec(0, 99), rec(99, 0), rec(99, 99)}
}

func allNames() []api.Name { return slices.Concat(databases(), tables(), records()) }

func rules() map[int]rule {
	none := []api.Mode{0}
	return map[int]rule{
		1:  {databases(), none, false, false},
		2:  {records(), none, false, true},
		3:  {records(), none, true, true},
		4:  {records(), none, true, true},
		5:  {records(), none, false, true},
		6:  {tables(), none, false, true},
		7:  {databases(), none, false, false},
		8:  {databases(), none, false, false},
		9:  {allNames(), []api.Mode{1, 2, 3, 4, 5, 6}, false, true},
		10: {allNames(), none, false, false},
		11: {databases(), none, false, false},
	}
}

func byteOrZero(is bool, i int64) bool { return i == 0 || is && i > 0 && i < 256 }

// allows reports whether the operation, whose name is one of those above, is valid as the rule of its kind says it.
func (r rule) allows(o api.Op) bool {
	return slices.Contains(r.names, o.Name) && slices.Contains(r.modes, o.Mode) && byteOrZero(r.value, o.Value) && byteOrZero(r.wait, o.Wait)
}

// noKinds is numbers that no kind of operations has; some are those of kinds when cut to 32, 16 or 8 bits.
func noKinds() []int {
	return []int{0, -1, -11, 12, 13, 255, 256, 257, 1<<16 + 1, 1<<32 + 7, math.MaxInt32, math.MinInt32, math.MaxInt, math.MinInt, math.MinInt + 1}
}

func manyModes() []api.Mode {
	return []api.Mode{0, 1, 2, 3, 4, 5, 6, 7, 8, -1, -6, 255, 256, 257, 1<<32 + 1, math.MaxInt, math.MinInt}
}

func manyBytes() []int64 {
	return []int64{0, 1, 2, 7, 127, 128, 254, 255, 256, 257, -1, -255, -256, 1 << 16, 1 << 32, 1<<32 + 5, math.MaxInt64, math.MinInt64, math.MinInt64 + 1}
}

// ops calls f with operations that are valid, and with ones of which any fields are wrong, and the rule of their kind.
func ops(f func(rule, api.Op)) {
	names := append(allNames(), noNames()...)
	kinds := append([]int{1, 2, 3, 4, 5, 6, 7, 8, 9, 10, 11}, noKinds()...)
	for _, k := range kinds {
		r := rules()[k]
		for _, n := range names {
			for _, m := range manyModes() {
				for _, v := range manyBytes() {
					for _, w := range manyBytes() {
						f(r, api.Op{Kind: k, Name: n, Mode: m, Value: v, Wait: w})
					}
				}
			}
		}
	}
}

// oneOfEach is a valid operation of each kind.
func oneOfEach() []api.Op {
	return []api.Op{
		{Kind: api.OpBegin, Name: db()},
		{Kind: api.OpRead, Name: rec(1, 2), Wait: 3},
		{Kind: api.OpWrite, Name: rec(2, 3), Value: 4, Wait: 5},
		{Kind: api.OpInsert, Name: rec(99, 99), Value: 255, Wait: 255},
		{Kind: api.OpDelete, Name: rec(0, 0), Wait: 0},
		{Kind: api.OpScan, Name: tab(7), Wait: 8},
		{Kind: api.OpCommit, Name: db()},
		{Kind: api.OpAbort, Name: db()},
		{Kind: api.OpLock, Name: tab(0), Mode: api.SIX, Wait: 9},
		{Kind: api.OpUnlock, Name: rec(10, 11)},
		{Kind: api.OpUnlockAll, Name: db()},
	}
}

// many is n operations.
func many(n int) []api.Op {
	l := make([]api.Op, n)
	for i := range l {
		l[i] = oneOfEach()[i%11]
	}
	return l
}

// manyPicks is n picks.
func manyPicks(n int) []api.Pick {
	l := make([]api.Pick, n)
	for i := range l {
		l[i] = api.Pick{Kind: i%4 + 1, Who: i % 256}
	}
	return l
}

func defaults() api.Caps { return api.Caps{Stripes: 4, Heads: 32, Requests: 64, Pool: 2} }

// greatest is the script of which nothing can be more.
func greatest() api.Script {
	s := api.Script{Picks: manyPicks(mostPicks), Caps: api.Caps{Stripes: mostStripes, Heads: mostHeads, Requests: mostRequests, Pool: mostPool}}
	for range mostThreads {
		s.Threads = append(s.Threads, many(mostOps))
	}
	return s
}

// smallest is the script of which nothing can be less.
func smallest() api.Script {
	return api.Script{Threads: [][]api.Op{nil}, Caps: api.Caps{Stripes: 1, Heads: 1, Requests: 1, Pool: 0}}
}

// usual is a script with two threads, one of which does everything.
func usual() api.Script {
	return api.Script{Threads: [][]api.Op{oneOfEach(), {{Kind: api.OpBegin, Name: db()}}}, Picks: manyPicks(9), Caps: defaults()}
}

// with is the usual script, changed by f.
func with(f func(s *api.Script)) api.Script {
	s := usual()
	f(&s)
	return s
}

func withCaps(c api.Caps) api.Script { return with(func(s *api.Script) { s.Caps = c }) }

func withPick(p api.Pick) api.Script { return with(func(s *api.Script) { s.Picks[8] = p }) }

func withOp(o api.Op) api.Script { return with(func(s *api.Script) { s.Threads[1][0] = o }) }

// checks holds what Check and Bytes say of s against want.
func checks(t *testing.T, what any, s api.Script, want api.Errno) {
	t.Helper()
	if e := script.Check(s); e != want {
		t.Errorf("%v: Check = %d, want %d", what, e, want)
	}
	if b, e := script.Bytes(s); e != want || want != api.OK && b != "" {
		t.Errorf("%v: Bytes = %d bytes, %d, want %d", what, len(b), e, want)
	}
}

func okIf(is bool) api.Errno {
	if is {
		return api.OK
	}
	return api.ErrArg
}

func TestP7_1Op(t *testing.T) {
	n := 0
	ops(func(r rule, o api.Op) {
		want := okIf(r.allows(o))
		if want == api.OK {
			n++
		}
		if e := script.Op(o); e != want {
			t.Fatalf("Op(%v) = %d, want %d", o, e, want)
		}
	})
	// 4 kinds with a database; 5 with a record and a wait, 2 of them with a value; a scan; a lock; an unlock.
	if want := 4 + 2*7*8 + 2*7*8*8 + 5*8 + 13*6*8 + 13; n != want {
		t.Errorf("%d were valid, want %d", n, want)
	}
}

func TestP7_1OpOfEachName(t *testing.T) {
	for i := -2; i <= 101; i++ {
		for j := -2; j <= 101; j++ {
			is := func(k int) bool {
				return i >= 0 && i < 100 && j >= 0 && j < 100 && k != 6 || i >= 0 && i < 100 && j == -1 && k != 2
			}
			for _, o := range []api.Op{{Kind: 2}, {Kind: 6}, {Kind: 9, Mode: 1}, {Kind: 10}} {
				o.Name = rec(i, j)
				want := okIf(is(o.Kind) || o.Kind > 8 && i == -1 && j == -1)
				if e := script.Op(o); e != want {
					t.Errorf("Op(%v) = %d, want %d", o, e, want)
				}
			}
		}
	}
}

func TestP7_1Check(t *testing.T) {
	checks(t, "usual", usual(), api.OK)
	checks(t, "smallest", smallest(), api.OK)
	checks(t, "greatest", greatest(), api.OK)
	checks(t, "zero", api.Script{}, api.ErrArg)
}

func TestP7_1CheckThreads(t *testing.T) {
	for n := range 20 {
		s := usual()
		s.Threads = make([][]api.Op, n)
		checks(t, n, s, okIf(n >= 1 && n <= 8))
	}
	checks(t, "256 threads", with(func(s *api.Script) { s.Threads = make([][]api.Op, 256) }), api.ErrArg)
	checks(t, "257 threads", with(func(s *api.Script) { s.Threads = make([][]api.Op, 257) }), api.ErrArg)
}

func TestP7_1CheckOps(t *testing.T) {
	for i := range mostThreads {
		for _, n := range []int{0, 1, 31, 32, 33, 34, 64, 256, 257, 288} {
			s := smallest()
			s.Threads = make([][]api.Op, mostThreads)
			s.Threads[i] = many(n)
			checks(t, n, s, okIf(n <= 32))
		}
	}
	for _, o := range oneOfEach() {
		checks(t, o, withOp(o), api.OK)
		o.Name = rec(-2, 0)
		checks(t, o, withOp(o), api.ErrArg)
	}
}

// A wrong operation counts wherever it is.
func TestP7_1CheckOneWrongOp(t *testing.T) {
	for i := range mostThreads {
		for _, j := range []int{0, 1, 15, 30, 31} {
			s := greatest()
			s.Threads[i][j] = api.Op{}
			checks(t, [2]int{i, j}, s, api.ErrArg)
		}
	}
}

func TestP7_1CheckPicks(t *testing.T) {
	for _, n := range []int{0, 1, 4095, 4096, 4097, 8192, 1 << 16} {
		checks(t, n, with(func(s *api.Script) { s.Picks = manyPicks(n) }), okIf(n <= 4096))
	}
	for _, k := range []int{1, 2, 3, 4} {
		for who := -3; who <= 520; who++ {
			checks(t, [2]int{k, who}, withPick(api.Pick{Kind: k, Who: who}), okIf(who >= 0 && who <= 255))
		}
		for _, who := range []int{1 << 16, 1 << 32, 1<<32 + 1, math.MaxInt, math.MinInt} {
			checks(t, [2]int{k, who}, withPick(api.Pick{Kind: k, Who: who}), api.ErrArg)
		}
	}
	for _, k := range []int{0, -1, -4, 5, 6, 255, 256, 257, 1<<32 + 1, math.MaxInt, math.MinInt} {
		checks(t, k, withPick(api.Pick{Kind: k}), api.ErrArg)
	}
	for _, i := range []int{0, 1, 2047, 4094, 4095} {
		s := greatest()
		s.Picks[i].Kind = 0
		checks(t, i, s, api.ErrArg)
	}
}

func TestP7_1CheckCaps(t *testing.T) {
	numbers := []int{math.MinInt, -256, -128, -1, 0, 1, 2, 7, 8, 9, 15, 16, 17, 63, 64, 65, 127, 128, 129, 255, 256, 257, 1 << 32, 1<<32 + 1, math.MaxInt}
	for _, i := range numbers {
		c := defaults()
		c.Stripes = i
		checks(t, c, withCaps(c), okIf(i >= 1 && i <= 16))
		c = defaults()
		c.Heads = i
		checks(t, c, withCaps(c), okIf(i >= 1 && i <= 64))
		c = defaults()
		c.Requests = i
		checks(t, c, withCaps(c), okIf(i >= 1 && i <= 128))
		c = defaults()
		c.Pool = i
		checks(t, c, withCaps(c), okIf(i >= 0 && i <= 8))
	}
	checks(t, "no caps", withCaps(api.Caps{}), api.ErrArg)
}

func TestP7_1Caps(t *testing.T) {
	if c := script.Caps(); c != defaults() {
		t.Errorf("Caps() = %v", c)
	}
}

func same(t *testing.T, what any, a, b api.Script, want bool) {
	t.Helper()
	if got := script.Same(a, b); got != want {
		t.Errorf("%v: Same = %v", what, got)
	}
	if got := script.Same(b, a); got != want {
		t.Errorf("%v: Same of the two the other way round = %v", what, got)
	}
}

func TestP7_1Same(t *testing.T) {
	same(t, "usual", usual(), usual(), true)
	same(t, "greatest", greatest(), greatest(), true)
	same(t, "zero", api.Script{}, api.Script{}, true)
	same(t, "usual, greatest", usual(), greatest(), false)
	same(t, "usual, zero", usual(), api.Script{}, false)
}

func TestP7_1SameComparesEachField(t *testing.T) {
	changes := map[string]func(s *api.Script){
		"one more thread":   func(s *api.Script) { s.Threads = append(s.Threads, nil) },
		"one less thread":   func(s *api.Script) { s.Threads = s.Threads[:1] },
		"one more op":       func(s *api.Script) { s.Threads[1] = append(s.Threads[1], s.Threads[0][0]) },
		"one less op":       func(s *api.Script) { s.Threads[0] = s.Threads[0][:10] },
		"op of another":     func(s *api.Script) { s.Threads[0], s.Threads[1] = s.Threads[1], s.Threads[0] },
		"other kind":        func(s *api.Script) { s.Threads[0][4].Kind++ },
		"other table":       func(s *api.Script) { s.Threads[0][4].Name.Table++ },
		"other record":      func(s *api.Script) { s.Threads[0][4].Name.Record++ },
		"other mode":        func(s *api.Script) { s.Threads[0][8].Mode++ },
		"other value":       func(s *api.Script) { s.Threads[0][10].Value++ },
		"other wait":        func(s *api.Script) { s.Threads[1][0].Wait++ },
		"one more pick":     func(s *api.Script) { s.Picks = append(s.Picks, api.Pick{}) },
		"one less pick":     func(s *api.Script) { s.Picks = s.Picks[:8] },
		"no picks":          func(s *api.Script) { s.Picks = nil },
		"other kind, pick":  func(s *api.Script) { s.Picks[8].Kind++ },
		"other who":         func(s *api.Script) { s.Picks[0].Who++ },
		"order of picks":    func(s *api.Script) { s.Picks[0], s.Picks[1] = s.Picks[1], s.Picks[0] },
		"order of ops":      func(s *api.Script) { s.Threads[0][0], s.Threads[0][1] = s.Threads[0][1], s.Threads[0][0] },
		"other stripes":     func(s *api.Script) { s.Caps.Stripes++ },
		"other heads":       func(s *api.Script) { s.Caps.Heads++ },
		"other requests":    func(s *api.Script) { s.Caps.Requests++ },
		"other pool":        func(s *api.Script) { s.Caps.Pool++ },
		"numbers of 2^32":   func(s *api.Script) { s.Threads[0][3].Value += 1 << 32 },
		"no threads at all": func(s *api.Script) { s.Threads = nil },
	}
	for what, change := range changes {
		same(t, what, usual(), with(change), false)
	}
}

func TestP7_1SameTakesNilForEmpty(t *testing.T) {
	a := api.Script{Threads: [][]api.Op{{}, nil}, Picks: []api.Pick{}}
	b := api.Script{Threads: [][]api.Op{nil, {}}}
	same(t, "nil and empty", a, b, true)
	same(t, "nil and empty threads", api.Script{Threads: [][]api.Op{}}, api.Script{}, true)
}

// What is passed is not changed, its spare capacity included.
func TestP7_1ArgumentsStayAsTheyAre(t *testing.T) {
	s := usual()
	s.Threads[1] = s.Threads[0][3:5]
	s.Threads = append(s.Threads, nil)[:2]
	want := api.Script{Threads: [][]api.Op{oneOfEach(), oneOfEach()[3:5], nil}, Picks: manyPicks(9), Caps: defaults()}
	script.Check(s)
	script.Bytes(s)
	script.Same(s, s)
	s.Threads = s.Threads[:3]
	same(t, "arguments", s, want, true)
}
