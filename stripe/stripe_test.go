package stripe_test

import (
	"hash/fnv"
	"math"
	"slices"
	"strconv"
	"strings"
	"testing"

	"latchstring/api"
	"latchstring/stripe"
)

// The tests write the names and their texts as they are, and do not trust package name.
func db() api.Name { return api.Name{Table: -1, Record: -1} }

func tab(t int) api.Name { return api.Name{Table: t, Record: -1} }

func rec(t, r int) api.Name { return api.Name{Table: t, Record: r} }

// valid is all valid names in order.
func valid() []api.Name {
	l := []api.Name{db()}
	for t := range 100 {
		l = append(l, tab(t))
		for r := range 100 {
			l = append(l, rec(t, r))
		}
	}
	return l
}

// someValid is names of each level.
func someValid() []api.Name {
	return []api.Name{db(), tab(0), tab(1), tab(3), tab(99), rec(0, 0), rec(0, 99), rec(3, 7), rec(7, 3), rec(42, 10), rec(99, 0), rec(99, 99)}
}

func notValid() []api.Name {
	return []api.Name{
		tab(-2), tab(100), tab(math.MinInt), tab(math.MaxInt),
		rec(-1, 0), rec(-1, 7), rec(-1, 99), rec(-1, 100), rec(-1, -2), rec(-2, -2), rec(-2, 0),
		rec(0, -2), rec(0, 100), rec(99, 100), rec(100, 0), rec(100, 99), rec(100, 100), rec(3, math.MaxInt), rec(3, math.MinInt),
		rec(math.MaxInt, math.MaxInt), rec(math.MinInt, math.MinInt), rec(math.MinInt, math.MaxInt),
	}
}

func textOf(n api.Name) string {
	switch {
	case n.Table == -1:
		return "db"
	case n.Record == -1:
		return "t" + strconv.Itoa(n.Table)
	}
	return "t" + strconv.Itoa(n.Table) + ".r" + strconv.Itoa(n.Record)
}

// noStripes is numbers of stripes that there cannot be; some are possible ones when cut to 32, 16 or 8 bits.
func noStripes() []int {
	l := []int{0, -1, -2, -16, -17, 17, 18, 32, 100, 255, 256, 257, 1<<16 + 4, math.MaxInt16, math.MaxInt32, math.MinInt32, math.MaxInt - 1, math.MaxInt, math.MinInt, math.MinInt + 1, math.MinInt + 4}
	for _, i := range []int64{1 << 32, 1<<32 + 1, 1<<32 + 4, 1<<32 + 16, -1<<32 + 4} {
		l = append(l, int(i))
	}
	return slices.DeleteFunc(l, func(i int) bool { return i >= 1 && i <= 16 }) // where int has 32 bits
}

// sumOf computes as the chapter does, in numbers that do not wrap around.
func sumOf(s string) uint32 {
	h := uint64(2166136261)
	for i := 0; i < len(s); i++ {
		h = (h ^ uint64(s[i])) * 16777619 % (1 << 32)
	}
	return uint32(h)
}

func TestP3_1SumOfKnown(t *testing.T) {
	for s, want := range map[string]uint32{
		"": 2166136261, "a": 3826002220,
		"b": 0xe70c2de5, "foo": 0xa9f37ed7, "foobar": 0xbf9cf968, "\x00": 0x050c5d1f,
	} {
		if got := stripe.Sum(s); got != want {
			t.Errorf("Sum(%q) = %d, want %d", s, got, want)
		}
	}
}

// texts are strings of bytes of all kinds: the hash is one of bytes, not of runes.
func texts() []string {
	l := []string{
		"", "a", "b", "ab", "ba", "aa", "db", "t3", "t3.r7", "?", "\x00", "\x00\x00", "a\x00", "\x00a", "a\x00b",
		"\u00e9", "e\u0301", "\u20ac", "\U0001f512", "\ufffd", "\ufeff", "t\u0663", "a\u00e9b\u20acc",
		"\xff", "\xfe\xff", "\xc3", "\xc3(", "\xe2\x82", "\xed\xa0\x80", "a\xffb", "\x80", "\xff\x00", "\xf0\x9f\x94",
		strings.Repeat("a", 1000), strings.Repeat("\xff", 1000), strings.Repeat("\x00", 1000), strings.Repeat("t3.r7", 5000),
	}
	for b := range 256 {
		l = append(l, string([]byte{byte(b)}), string([]byte{'t', byte(b), '7'}), string([]byte{byte(b), byte(255 - b)}))
	}
	return l
}

func TestP3_1Sum(t *testing.T) {
	for _, s := range texts() {
		want := sumOf(s)
		h := fnv.New32a()
		h.Write([]byte(s))
		if h.Sum32() != want {
			t.Fatalf("the test's own hash of %q is %d", s, want)
		}
		if got := stripe.Sum(s); got != want {
			t.Errorf("Sum(%q) = %d, want %d", s, got, want)
		}
	}
}

// Each byte counts, and so does its place.
func TestP3_1SumOfPrefixes(t *testing.T) {
	s := "t3.r7 \x00\xff \u20ac\U0001f512"
	for i := range len(s) + 1 {
		for j := i; j <= len(s); j++ {
			if got := stripe.Sum(s[i:j]); got != sumOf(s[i:j]) {
				t.Errorf("Sum(%q) = %d, want %d", s[i:j], got, sumOf(s[i:j]))
			}
		}
	}
}

func TestP3_1Hash(t *testing.T) {
	for _, n := range valid() {
		if got := stripe.Hash(n); got != sumOf(textOf(n)) || got != stripe.Sum(textOf(n)) {
			t.Errorf("Hash(%v) = %d, want %d", n, got, sumOf(textOf(n)))
		}
	}
}

func TestP3_1HashOfNotValid(t *testing.T) {
	for _, n := range notValid() {
		if got := stripe.Hash(n); got != sumOf("?") {
			t.Errorf("Hash(%v) = %d, want %d", n, got, sumOf("?"))
		}
	}
}

func TestP3_1Of(t *testing.T) {
	for _, n := range valid() {
		for stripes := 1; stripes <= 16; stripes++ {
			want := int(uint64(sumOf(textOf(n))) % uint64(stripes))
			if got := stripe.Of(n, stripes); got != want {
				t.Fatalf("Of(%v, %d) = %d, want %d", n, stripes, got, want)
			}
		}
	}
}

// Numbers that were computed apart from this program; the last two hashes are above 2^31.
func TestP3_1OfKnown(t *testing.T) {
	for _, c := range []struct {
		n    api.Name
		hash uint32
	}{{tab(0), 155512425}, {rec(0, 0), 729078591}, {rec(99, 99), 1169597899}, {db(), 1461503683}, {rec(3, 7), 1486930237}, {rec(42, 10), 3317257912}, {tab(99), 4086596597}} {
		if got := stripe.Hash(c.n); got != c.hash {
			t.Errorf("Hash(%v) = %d, want %d", c.n, got, c.hash)
		}
		for stripes := 1; stripes <= 16; stripes++ {
			if got := stripe.Of(c.n, stripes); got != int(c.hash%uint32(stripes)) {
				t.Errorf("Of(%v, %d) = %d", c.n, stripes, got)
			}
		}
	}
}

func TestP3_1OfWithoutStripe(t *testing.T) {
	for _, n := range append(someValid(), notValid()...) {
		for _, stripes := range noStripes() {
			if got := stripe.Of(n, stripes); got != -1 {
				t.Errorf("Of(%v, %d) = %d", n, stripes, got)
			}
		}
	}
	for _, n := range notValid() {
		for stripes := 1; stripes <= 16; stripes++ {
			if got := stripe.Of(n, stripes); got != -1 {
				t.Errorf("Of(%v, %d) = %d", n, stripes, got)
			}
		}
	}
}

func TestP3_1Same(t *testing.T) {
	for _, a := range someValid() {
		for _, b := range someValid() {
			for stripes := 1; stripes <= 16; stripes++ {
				want := sumOf(textOf(a))%uint32(stripes) == sumOf(textOf(b))%uint32(stripes)
				if got := stripe.Same(a, b, stripes); got != want {
					t.Errorf("Same(%v, %v, %d) = %v", a, b, stripes, got)
				}
			}
			if !stripe.Same(a, b, 1) {
				t.Errorf("Same(%v, %v, 1) = false", a, b)
			}
		}
	}
}

// Two that have no stripe do not have the same one, not even if they are the same name.
func TestP3_1SameWithoutStripe(t *testing.T) {
	for _, a := range append(someValid(), notValid()...) {
		for _, b := range notValid() {
			for stripes := range 17 {
				if stripe.Same(a, b, stripes) || stripe.Same(b, a, stripes) {
					t.Errorf("%v and %v have the same stripe of %d", a, b, stripes)
				}
			}
		}
		for _, b := range someValid() {
			for _, stripes := range noStripes() {
				if stripe.Same(a, b, stripes) {
					t.Errorf("Same(%v, %v, %d) = true", a, b, stripes)
				}
			}
		}
	}
}

func TestP3_1Spread(t *testing.T) {
	mixed := slices.Concat(notValid(), someValid(), notValid(), someValid(), []api.Name{db(), db(), rec(3, 7)})
	for _, l := range [][]api.Name{nil, {}, {db()}, {rec(3, 7), rec(3, 7), rec(3, 7)}, {tab(100)}, {rec(3, 7), tab(-2), tab(3)}, someValid(), notValid(), mixed, valid()} {
		before := slices.Clone(l)
		for stripes := 1; stripes <= 16; stripes++ {
			want := make([]int, stripes)
			for _, n := range l {
				if slices.Contains(notValid(), n) {
					continue
				}
				want[sumOf(textOf(n))%uint32(stripes)]++
			}
			if got := stripe.Spread(l, stripes); !slices.Equal(got, want) {
				t.Errorf("Spread of %d names, %d stripes: %v, want %v", len(l), stripes, got, want)
			}
		}
		if !slices.Equal(l, before) {
			t.Errorf("Spread changed %v to %v", before, l)
		}
	}
}

func TestP3_1SpreadOverNoStripes(t *testing.T) {
	for _, l := range [][]api.Name{nil, {}, {db()}, someValid(), notValid()} {
		for _, stripes := range noStripes() {
			if got := stripe.Spread(l, stripes); len(got) != 0 {
				t.Errorf("Spread of %d names, %d stripes: %v", len(l), stripes, got)
			}
		}
	}
}

// What is behind the length of a list is neither counted nor written.
func TestP3_1SpreadLeavesSpareCapacity(t *testing.T) {
	all := someValid()
	got := stripe.Spread(all[:3], 1)
	if !slices.Equal(got, []int{3}) {
		t.Errorf("Spread of three names: %v", got)
	}
	if !slices.Equal(all, someValid()) {
		t.Errorf("Spread changed what is behind its list: %v", all)
	}
}

func TestP3_1SpreadIsNewMemory(t *testing.T) {
	first := stripe.Spread(someValid(), 5)
	want := slices.Clone(first)
	second := stripe.Spread(someValid(), 5)
	second = second[:cap(second)]
	for i := range second {
		second[i] = 99
	}
	if !slices.Equal(first, want) {
		t.Errorf("two results share memory: %v, want %v", first, want)
	}
	if got := stripe.Spread(someValid(), 5); !slices.Equal(got, want) {
		t.Errorf("Spread after a change of what it returned: %v, want %v", got, want)
	}
}

func TestP3_2NumbersAddUp(t *testing.T) {
	mixed := slices.Concat(valid(), notValid(), someValid(), notValid())
	for _, c := range []struct {
		l    []api.Name
		want int
	}{
		{nil, 0}, {notValid(), 0}, {someValid(), len(someValid())}, {[]api.Name{db(), db(), tab(100), db()}, 3},
		{valid(), 10101}, {mixed, 10101 + len(someValid())},
	} {
		for stripes := 1; stripes <= 16; stripes++ {
			got := stripe.Spread(c.l, stripes)
			sum := 0
			for _, i := range got {
				sum += i
			}
			if sum != c.want || len(got) != stripes {
				t.Errorf("Spread of %d names, %d stripes: %v, which are %d, want %d", len(c.l), stripes, got, sum, c.want)
			}
		}
	}
}

// Each stripe has as many names as Of and Same tell.
func TestP3_2SpreadAgreesWithOf(t *testing.T) {
	l := append(someValid(), notValid()...)
	for stripes := 1; stripes <= 16; stripes++ {
		counts := stripe.Spread(l, stripes)
		for _, n := range l {
			i := stripe.Of(n, stripes)
			if i == -1 {
				continue
			}
			same := 0
			for _, m := range l {
				if stripe.Same(n, m, stripes) {
					same++
				}
			}
			if counts[i] != same {
				t.Errorf("%d names have stripe %d of %d, Spread counts %d", same, i, stripes, counts[i])
			}
		}
	}
}

func TestExamples(t *testing.T) {
	if got := stripe.Sum("a"); got != 3826002220 {
		t.Errorf("Sum(a) = %d", got)
	}
	if got := stripe.Sum(""); got != 2166136261 {
		t.Errorf("Sum of the empty string = %d", got)
	}
}
