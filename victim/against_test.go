package victim_test

import (
	"math"
	"math/rand"
	"slices"
	"testing"

	"latchstring/api"
	"latchstring/queue"
	"latchstring/victim"
	"latchstring/waits"
)

// anyAges is entries for some transactions, also several for one, with few ages, so that some are the same.
func anyAges(r *rand.Rand, txns []int) []api.Age {
	few := []int64{math.MinInt64, -2, -1, 0, 0, 1, 2, math.MaxInt64}
	l := make([]api.Age, r.Intn(2*len(txns)+1))
	for i := range l {
		l[i] = api.Age{Txn: txns[r.Intn(len(txns))], Age: few[r.Intn(len(few))]}
	}
	return l
}

// anyEdges is edges between some transactions, also such that lead to themselves, and such that come twice.
func anyEdges(r *rand.Rand, txns []int) []api.Edge {
	l := make([]api.Edge, r.Intn(3*len(txns)))
	for i := range l {
		l[i] = api.Edge{From: txns[r.Intn(len(txns))], To: txns[r.Intn(len(txns))]}
	}
	return l
}

// breaks holds victims against P14.2, and returns how many there are.
func breaks(t *testing.T, l []api.Edge, victims []int) int {
	t.Helper()
	left := l
	for i, txn := range victims {
		if slices.Contains(victims[:i], txn) {
			t.Fatalf("%v: %d is chosen twice: %v", l, txn, victims)
		}
		if !slices.Contains(waits.Reach(left, txn), txn) {
			t.Fatalf("%v: %d of %v was in no cycle of %v", l, txn, victims, left)
		}
		left = waits.Without(left, txn)
	}
	if !waits.Acyclic(left) {
		t.Fatalf("%v: without %v there is still a cycle: %v", l, victims, left)
	}
	return len(victims)
}

// numbers is transactions with numbers of all kinds.
func numbers() []int {
	return []int{3, math.MinInt, 0, math.MaxInt, -1, 7, 1 << 32, 4}
}

func TestP14_1ChooseAgainstTheWords(t *testing.T) {
	r := rand.New(rand.NewSource(1))
	all := numbers()
	for range 20000 {
		r.Shuffle(len(all), func(i, j int) { all[i], all[j] = all[j], all[i] })
		cycle, l := all[:r.Intn(len(all)+1)], anyAges(r, all)
		want, there := plainChoose(cycle, l)
		if got, is := victim.Choose(cycle, l); got != want || is != there {
			t.Fatalf("Choose(%v, %v) = %d, %v, want %d, %v", cycle, l, got, is, want, there)
		}
		for _, txn := range append(all, 5) {
			aged(t, l, txn, plainAge(l, txn))
		}
	}
}

func TestVictimsAgainstTheWords(t *testing.T) {
	r := rand.New(rand.NewSource(2))
	counts := map[int]int{}
	for range 10000 {
		txns := numbers()[:1+r.Intn(8)]
		l, a := anyEdges(r, txns), anyAges(r, txns)
		got := victim.Victims(l, a)
		if want := plainVictims(l, a); !slices.Equal(got, want) {
			t.Fatalf("Victims(%v, %v) = %v, want %v", l, a, got, want)
		}
		counts[breaks(t, l, got)]++
	}
	for n := range 5 {
		if counts[n] < 100 {
			t.Errorf("only %d lists with %d victims", counts[n], n)
		}
	}
}

// All graphs of up to three transactions, and each order of their ages.
func TestAllSmallGraphs(t *testing.T) {
	for n := range 4 {
		for set := range 1 << (n * n) {
			var l []api.Edge
			for i := range n * n {
				if set>>i&1 == 1 {
					l = append(l, api.Edge{From: i / n, To: i % n})
				}
			}
			for order := range 27 {
				a := ages(0, order%3, 1, order/3%3, 2, order/9)
				ends(t, l, a, plainVictims(l, a)...)
				breaks(t, l, victim.Victims(l, a))
			}
		}
	}
}

// anyCall changes a head by a call, or not at all if the call is not possible.
func anyCall(r *rand.Rand, h api.Head) api.Head {
	id, m := r.Intn(6), api.Mode(1+r.Intn(6))
	var g api.Head
	var e api.Errno
	switch r.Intn(7) {
	case 0, 1, 2:
		g, _, e = queue.Ask(h, id, 9-id, m)
	case 3, 4, 5:
		g, _, e = queue.Upgrade(h, id, m)
	case 6:
		if g, e = queue.Leave(h, id); e == api.OK {
			g, _ = queue.Scan(g)
		}
	}
	if e != api.OK {
		return h
	}
	return g
}

func TestOfAgainstTheWords(t *testing.T) {
	r := rand.New(rand.NewSource(3))
	found := 0
	for range 300 {
		l := make([]api.Head, 1+r.Intn(3))
		for range 40 {
			i := r.Intn(len(l))
			l[i] = anyCall(r, l[i])
			between, a := waits.Edges(l), anyAges(r, []int{4, 5, 6, 7, 8, 9})
			of(t, a, plainVictims(between, a), l...)
			found += breaks(t, between, victim.Of(l, a))
		}
	}
	if found < 1000 {
		t.Errorf("only %d victims", found)
	}
}

// However long the lists are, the calls end, and soon enough to wait for them.
func TestLongLists(t *testing.T) {
	const n = 200_000
	l, cycle, a := make([]api.Edge, n), make([]int, n), make([]api.Age, n)
	for i := range n {
		l[i] = api.Edge{From: i, To: (i + 1) % n}
		cycle[i] = i
		a[i] = api.Age{Txn: n - i, Age: int64(max(i, n-i))}
	}
	chooses(t, cycle[:2], a, 1)
	if txn, is := victim.Choose(cycle, a); txn != n-1 || !is {
		t.Errorf("Choose of a long cycle = %d, %v", txn, is)
	}
	a[n/2].Age = n
	ends(t, l, a, n/2)
}

func TestManyVictims(t *testing.T) {
	const n = 1000
	var l []api.Edge
	var a []api.Age
	var want []int
	for i := range n {
		l = append(l, edges(2*i+1, 2*i, 2*i, 2*i+1)...)
		a = append(a, ages(2*i, i%3)...)
		want = append(want, 2*i+1-min(1, i%3))
	}
	ends(t, l, a, want...)
}
