package waits_test

import (
	"math"
	"math/rand"
	"slices"
	"testing"

	"latchstring/api"
	"latchstring/waits"
)

// agrees holds all calls for a list of edges against the chapter's words.
func agrees(t *testing.T, l []api.Edge, txns []int) {
	t.Helper()
	if got, want := waits.Sorted(l), plainSorted(l); !slices.Equal(got, want) {
		t.Fatalf("Sorted(%v) = %v, want %v", l, got, want)
	}
	cycle, is := plainCycle(l)
	if got, found := waits.Cycle(l); !slices.Equal(got, cycle) || found != is {
		t.Fatalf("Cycle(%v) = %v, %v, want %v", l, got, found, cycle)
	}
	if waits.Acyclic(l) == is {
		t.Fatalf("Acyclic(%v) = %v", l, is)
	}
	for _, txn := range txns {
		if got, want := waits.Reach(l, txn), plainReach(l, txn); !slices.Equal(got, want) {
			t.Fatalf("Reach(%v, %d) = %v, want %v", l, txn, got, want)
		}
		if got, want := waits.Without(l, txn), plainWithout(l, txn); !slices.Equal(got, want) {
			t.Fatalf("Without(%v, %d) = %v, want %v", l, txn, got, want)
		}
	}
}

// All graphs of up to four transactions, with the edges in an order that changes from one to the next.
func TestAllSmallGraphs(t *testing.T) {
	r := rand.New(rand.NewSource(2))
	txns := []int{math.MinInt, -1, 3, math.MaxInt}
	for n := range 5 {
		for set := range 1 << (n * n) {
			var l []api.Edge
			for i := range n * n {
				if set>>i&1 == 1 {
					l = append(l, api.Edge{From: txns[i/n], To: txns[i%n]})
				}
			}
			r.Shuffle(len(l), func(i, j int) { l[i], l[j] = l[j], l[i] })
			agrees(t, l, txns)
		}
	}
}

// Greater graphs with few edges, so that some have long ways and others none, and edges that come twice.
func TestGreaterGraphs(t *testing.T) {
	r := rand.New(rand.NewSource(3))
	for range 4000 {
		n := 2 + r.Intn(8)
		l := make([]api.Edge, r.Intn(2*n))
		for i := range l {
			l[i] = api.Edge{From: r.Intn(n) - 2, To: r.Intn(n) - 2}
		}
		var txns []int
		for txn := -3; txn <= n; txn++ {
			txns = append(txns, txn)
		}
		agrees(t, l, txns)
	}
}

// chain is the edges from each one to the next one, from a number on.
func chain(from, n int) []api.Edge {
	var l []api.Edge
	for i := range n {
		l = append(l, api.Edge{From: from + i, To: from + i + 1})
	}
	return l
}

// However long the ways are, the calls end, and soon enough to wait for them.
func TestLongWays(t *testing.T) {
	const n = 200_000
	l := chain(1, n)
	slices.Reverse(l)
	cycles(t, l)
	if got := waits.Reach(l, 1); len(got) != n || got[0] != 2 || got[n-1] != n+1 {
		t.Errorf("Reach of a chain has %d members", len(got))
	}
	c, is := waits.Cycle(append(l, api.Edge{From: n + 1, To: 1}))
	if !is || len(c) != n+1 || !slices.IsSorted(c) || c[0] != 1 {
		t.Errorf("Cycle of a long round has %d members, %v", len(c), is)
	}
	// Between two cycles, whose members come last.
	l = append(l, edges(-1, -1, -1, 1, n+1, n+2, n+2, n+2)...)
	if c, is := waits.Cycle(plainWithout(l, -1)); !is || !slices.Equal(c, []int{n + 2}) {
		t.Errorf("Cycle behind a chain = %v, %v", c, is)
	}
	if c, is := waits.Cycle(l); !is || !slices.Equal(c, []int{-1}) {
		t.Errorf("Cycle before a chain = %v, %v", c, is)
	}
}

// Many that lead to one long chain between two cycles: none of them is on a cycle.
func TestManyWaysBetweenCycles(t *testing.T) {
	const n = 50_000
	l := append(chain(n, n), edges(3*n, 3*n, 2*n, 2*n, 2*n, 3*n)...)
	for i := range n {
		l = append(l, edges(3*n+1, i, i, n)...)
	}
	l = append(l, edges(3*n+1, 3*n+1)...)
	if c, is := waits.Cycle(l); !is || !slices.Equal(c, []int{2 * n}) {
		t.Errorf("Cycle = %v, %v", c, is)
	}
}

// P13.3: somebody among those that are waited for waits for nobody, if there is no cycle.
func freeOne(l []api.Edge) bool {
	return slices.ContainsFunc(l, func(e api.Edge) bool {
		return !slices.ContainsFunc(l, func(f api.Edge) bool { return f.From == e.To })
	})
}

func TestP13_3SomebodyWaitsForNobody(t *testing.T) {
	r := rand.New(rand.NewSource(4))
	with := 0
	for range 20000 {
		n := 2 + r.Intn(6)
		l := make([]api.Edge, 1+r.Intn(n+2))
		for i := range l {
			l[i] = api.Edge{From: r.Intn(n), To: r.Intn(n)}
		}
		if waits.Acyclic(l) {
			with++
			if !freeOne(l) {
				t.Fatalf("%v: no cycle, but all that are waited for wait", l)
			}
		}
	}
	if with < 1000 {
		t.Errorf("only %d lists without a cycle", with)
	}
}

// The same of heads: then whoever is waited for can go on, and let others in.
func TestP13_3OfHeads(t *testing.T) {
	r := rand.New(rand.NewSource(5))
	free, stuck := 0, 0
	for range 2000 {
		l := make([]api.Head, 1+r.Intn(3))
		for range 30 {
			i := r.Intn(len(l))
			l[i] = anyCall(r, l[i], 6)
		}
		edges := waits.Edges(l)
		switch {
		case !waits.Acyclic(edges):
			stuck++
		case len(edges) > 0:
			free++
			if !freeOne(edges) {
				t.Fatalf("%v: no cycle, but all that are waited for wait", edges)
			}
		}
	}
	if free < 100 || stuck < 100 {
		t.Errorf("only %d without a cycle, %d with one", free, stuck)
	}
}
