package script_test

import (
	"math/rand"
	"slices"
	"strings"
	"testing"

	"latchstring/api"
	"latchstring/script"
)

// bytesOf is the bytes of these numbers.
func bytesOf(l ...int) string {
	b := make([]byte, len(l))
	for i, x := range l {
		b[i] = byte(x)
	}
	return string(b)
}

// The entries as the chapter writes them.
func caps(stripes, heads, requests, pool, threads int) string {
	return bytesOf(1, stripes, heads, requests, pool, threads, 0, 0)
}

func op(thread int, o api.Op) string {
	return bytesOf(2, thread, o.Kind, o.Name.Table+1, o.Name.Record+1, int(o.Mode), int(o.Value), int(o.Wait))
}

func pick(kind, who int) string { return bytesOf(3, kind, who, 0, 0, 0, 0, 0) }

// inFull is the bytes of a script, entry by entry.
func inFull(s api.Script) string {
	b := caps(s.Caps.Stripes, s.Caps.Heads, s.Caps.Requests, s.Caps.Pool, len(s.Threads))
	for i, ops := range s.Threads {
		for _, o := range ops {
			b += op(i, o)
		}
	}
	for _, p := range s.Picks {
		b += pick(p.Kind, p.Who)
	}
	return b
}

// reads holds what Read makes of b against want.
func reads(t *testing.T, what any, b string, want api.Script) {
	t.Helper()
	got := script.Read(b)
	if !script.Same(got, want) {
		t.Errorf("%v: Read = %v, want %v", what, got, want)
	}
	if e := script.Check(got); e != api.OK {
		t.Errorf("%v: Check of what was read = %d", what, e)
	}
}

// empty is what is read without bytes, with that many threads.
func empty(threads int) api.Script {
	return api.Script{Threads: make([][]api.Op, threads), Caps: defaults()}
}

func begin() api.Op { return oneOfEach()[0] }

func TestP7_1Bytes(t *testing.T) {
	for _, s := range []api.Script{usual(), smallest(), greatest(), empty(1), empty(8)} {
		if b, e := script.Bytes(s); b != inFull(s) || e != api.OK {
			t.Errorf("Bytes(%v) = %q, %d", s, b, e)
		}
	}
}

func TestP7_1BytesOfEachEntry(t *testing.T) {
	s := api.Script{
		Threads: [][]api.Op{nil, oneOfEach()},
		Picks:   []api.Pick{{Kind: 1, Who: 0}, {Kind: 2, Who: 255}, {Kind: 3, Who: 7}, {Kind: 4, Who: 1}},
		Caps:    api.Caps{Stripes: 16, Heads: 64, Requests: 128, Pool: 8},
	}
	want := "\x01\x10\x40\x80\x08\x02\x00\x00" +
		"\x02\x01\x01\x00\x00\x00\x00\x00" +
		"\x02\x01\x02\x02\x03\x00\x00\x03" +
		"\x02\x01\x03\x03\x04\x00\x04\x05" +
		"\x02\x01\x04\x64\x64\x00\xff\xff" +
		"\x02\x01\x05\x01\x01\x00\x00\x00" +
		"\x02\x01\x06\x08\x00\x00\x00\x08" +
		"\x02\x01\x07\x00\x00\x00\x00\x00" +
		"\x02\x01\x08\x00\x00\x00\x00\x00" +
		"\x02\x01\x09\x01\x00\x04\x00\x09" +
		"\x02\x01\x0a\x0b\x0c\x00\x00\x00" +
		"\x02\x01\x0b\x00\x00\x00\x00\x00" +
		"\x03\x01\x00\x00\x00\x00\x00\x00" +
		"\x03\x02\xff\x00\x00\x00\x00\x00" +
		"\x03\x03\x07\x00\x00\x00\x00\x00" +
		"\x03\x04\x01\x00\x00\x00\x00\x00"
	if b, e := script.Bytes(s); b != want || e != api.OK {
		t.Errorf("Bytes = %q, %d", b, e)
	}
	reads(t, "each entry", want, s)
}

func TestP7_1ReadOfNothing(t *testing.T) {
	for n := range size {
		for _, c := range []string{"\x00", "\x01", "\x02", "\x03", "x"} {
			reads(t, n, strings.Repeat(c, n), empty(1))
		}
	}
}

// Each first byte, and each number of bytes that are not 0, where the chapter has none.
func TestP7_1ReadOfWhatIsNoEntry(t *testing.T) {
	for first := range 256 {
		reads(t, first, bytesOf(first, 0, 0, 0, 0, 0, 0, 0), empty(1))
		if first < 1 || first > 3 {
			for _, e := range []string{caps(1, 1, 1, 1, 2), op(1, begin()), pick(1, 0)} {
				reads(t, first, bytesOf(first)+e[1:], empty(1))
			}
		}
	}
	for x := 1; x < 256; x++ {
		for i := 6; i < size; i++ {
			reads(t, x, change(caps(1, 2, 3, 4, 5), i, x), empty(1))
		}
		for i := 3; i < size; i++ {
			reads(t, x, change(pick(2, 3), i, x), empty(1))
		}
	}
}

// change is an entry with another byte at i.
func change(e string, i, x int) string { return e[:i] + bytesOf(x) + e[i+1:] }

func TestP7_1ReadCaps(t *testing.T) {
	for x := range 256 {
		in := func(low, high int) bool { return x >= low && x <= high }
		for i, is := range []bool{in(1, 16), in(1, 64), in(1, 128), in(0, 8), in(1, 8)} {
			fields := [5]int{5, 6, 7, 1, 3}
			fields[i] = x
			want := empty(1)
			if is {
				want = empty(fields[4])
				want.Caps = api.Caps{Stripes: fields[0], Heads: fields[1], Requests: fields[2], Pool: fields[3]}
			}
			reads(t, fields, caps(fields[0], fields[1], fields[2], fields[3], fields[4]), want)
		}
	}
}

func TestP7_1ReadLaterCaps(t *testing.T) {
	for a := range 11 {
		for b := range 11 {
			threads := 1
			want := empty(1)
			if a >= 1 && a <= 8 {
				threads, want.Caps = a, api.Caps{Stripes: 1, Heads: 2, Requests: 3, Pool: 4}
			}
			if b >= 1 && b <= 8 {
				threads, want.Caps = max(threads, b), api.Caps{Stripes: 5, Heads: 6, Requests: 7, Pool: 0}
			}
			want.Threads = make([][]api.Op, threads)
			reads(t, [2]int{a, b}, caps(1, 2, 3, 4, a)+caps(5, 6, 7, 0, b), want)
		}
	}
}

// Later caps leave the operations and picks as they are, wherever they stand.
func TestP7_1ReadCapsBehindOps(t *testing.T) {
	for n := 1; n <= 8; n++ {
		want := empty(max(4, n))
		want.Threads[3] = []api.Op{begin(), begin()}
		want.Picks = []api.Pick{{Kind: 4, Who: 9}}
		want.Caps = api.Caps{Stripes: 9, Heads: 8, Requests: 7, Pool: 6}
		reads(t, n, op(3, begin())+pick(4, 9)+caps(9, 8, 7, 6, n)+op(3, begin()), want)
		wrong := []string{caps(0, 8, 7, 6, 8), caps(9, 8, 7, 6, 9), caps(9, 8, 7, 6, 0), caps(9, 8, 7, 9, 8), change(caps(9, 8, 7, 6, 8), 7, 1)}
		for _, c := range wrong {
			want.Caps = defaults()
			want.Threads = want.Threads[:4]
			reads(t, c, op(3, begin())+pick(4, 9)+c+op(3, begin()), want)
		}
	}
}

func TestP7_1ReadOpCreatesThreads(t *testing.T) {
	for i := range 256 {
		want := empty(1)
		if i < 8 {
			want = empty(i + 1)
			want.Threads[i] = []api.Op{begin()}
		}
		reads(t, i, op(i, begin()), want)
		wrong := begin()
		wrong.Value = 1
		reads(t, i, op(i, wrong), empty(1))
	}
}

func TestP7_1ReadOpsOfThreadsInTurn(t *testing.T) {
	want := empty(6)
	b := ""
	for k, o := range oneOfEach() {
		i := k * 5 % 6
		want.Threads[i] = append(want.Threads[i], o)
		want.Picks = append(want.Picks, api.Pick{Kind: k%4 + 1, Who: 255 - k})
		b += pick(k%4+1, 255-k) + op(i, o)
	}
	reads(t, "in turn", b, want)
}

func TestP7_1ReadOneOpTooMany(t *testing.T) {
	for i := range mostThreads {
		b, want := "", empty(i+1)
		for k := range mostOps {
			o := api.Op{Kind: api.OpWrite, Name: rec(k, i), Value: int64(k)}
			b += op(i, o)
			want.Threads[i] = append(want.Threads[i], o)
		}
		reads(t, i, b, want)
		reads(t, i, b+op(i, begin()), want)
		reads(t, i, b+op(i, begin())+op(i, begin()), want)
		want.Threads[0] = append(want.Threads[0], begin())
		if i > 0 {
			reads(t, i, b+op(i, begin())+op(0, begin()), want)
		}
	}
}

func TestP7_1ReadOnePickTooMany(t *testing.T) {
	want := greatest()
	b := inFull(want)
	reads(t, "greatest", b, want)
	reads(t, "one more", b+pick(1, 1), want)
	reads(t, "all once more", b+b, want)
	want.Caps = defaults()
	reads(t, "other caps", b+pick(1, 1)+caps(4, 32, 64, 2, 1), want)
}

func TestP7_1ReadPicks(t *testing.T) {
	for k := range 256 {
		for who := range 256 {
			want := empty(1)
			if k >= 1 && k <= 4 {
				want.Picks = []api.Pick{{Kind: k, Who: who}}
			}
			reads(t, [2]int{k, who}, pick(k, who), want)
		}
	}
}

// What is too short for an entry is ignored, but nothing of what is before it.
func TestP7_1ReadShortEnd(t *testing.T) {
	b := inFull(usual())
	for n := range len(b) {
		reads(t, n, b[:n], script.Read(b[:n/size*size]))
	}
	for _, e := range []string{caps(1, 1, 1, 1, 1), op(0, begin()), pick(1, 1)} {
		for n := range size {
			reads(t, n, b+e[:n], usual())
		}
	}
}

// Entries are where a multiple of 8 bytes is before them.
func TestP7_1ReadShifted(t *testing.T) {
	b := inFull(usual())
	for n := 1; n <= 16; n++ {
		want := empty(1)
		if n%size == 0 {
			want = usual()
		}
		reads(t, n, strings.Repeat("\xff", n)+b, want)
	}
}

// plain reads bytes as the chapter says it: each entry is tried, and taken if the script remains valid.
func plain(b string) api.Script {
	s := empty(1)
	for len(b) >= size {
		e := b[:size]
		b = b[size:]
		next := api.Script{Threads: slices.Clone(s.Threads), Picks: slices.Clone(s.Picks), Caps: s.Caps}
		switch {
		case e[0] == 1 && e[5] > 0 && e[6] == 0 && e[7] == 0:
			next.Caps = api.Caps{Stripes: int(e[1]), Heads: int(e[2]), Requests: int(e[3]), Pool: int(e[4])}
			next.Threads = append(next.Threads, make([][]api.Op, max(0, int(e[5])-len(next.Threads)))...)
		case e[0] == 2:
			o := api.Op{Kind: int(e[2]), Name: rec(int(e[3])-1, int(e[4])-1), Mode: api.Mode(e[5]), Value: int64(e[6]), Wait: int64(e[7])}
			next.Threads = append(next.Threads, make([][]api.Op, max(0, int(e[1])+1-len(next.Threads)))...)
			next.Threads[e[1]] = append(slices.Clone(next.Threads[e[1]]), o)
		case e[0] == 3 && e[3:] == "\x00\x00\x00\x00\x00":
			next.Picks = append(next.Picks, api.Pick{Kind: int(e[1]), Who: int(e[2])})
		}
		if script.Check(next) == api.OK {
			s = next
		}
	}
	return s
}

// randomBytes is entries of all kinds, most of them right, some with one or two other bytes.
func randomBytes(r *rand.Rand, entries int) string {
	b := ""
	for range entries {
		var e string
		switch r.Intn(8) {
		case 0:
			e = caps(r.Intn(18), r.Intn(66), r.Intn(130), r.Intn(10), r.Intn(10))
		case 1:
			e = pick(r.Intn(6), r.Intn(256))
		case 2:
			e = bytesOf(r.Intn(5), r.Intn(10), r.Intn(13), r.Intn(103), r.Intn(103), r.Intn(8), r.Intn(256), r.Intn(256))
		default:
			e = op(r.Intn(9), oneOfEach()[r.Intn(11)])
		}
		for range max(0, r.Intn(5)-2) {
			e = change(e, r.Intn(size), r.Intn(256)>>r.Intn(8))
		}
		b += e
	}
	return b + strings.Repeat("\x01", r.Intn(size))
}

func TestP7_1ReadOfAnyBytes(t *testing.T) {
	r := rand.New(rand.NewSource(7))
	for n := range 1500 {
		b := randomBytes(r, r.Intn(60))
		reads(t, n, b, plain(b))
	}
	for n := range 20 {
		b := randomBytes(r, 600)
		reads(t, n, b, plain(b))
	}
}

// What is read shares no memory: not within a script, and not with one read before.
func TestP7_1ReadIsNewMemory(t *testing.T) {
	b := inFull(usual())
	a := script.Read(b)
	for i, l := range a.Threads {
		full := l[:cap(l)]
		for j := range full {
			full[j] = api.Op{Kind: -i}
		}
	}
	for i, l := range a.Threads {
		for _, o := range l[:cap(l)] {
			if o != (api.Op{Kind: -i}) {
				t.Errorf("threads share their operations: %v", o)
			}
		}
	}
	clear(a.Picks[:cap(a.Picks)])
	clear(a.Threads[:cap(a.Threads)])
	reads(t, "again", b, usual())
}

func TestP7_2Entry(t *testing.T) {
	for i := range 256 {
		for _, o := range oneOfEach() {
			thread, got, is := script.Entry(op(i, o))
			if i < 8 && (thread != i || got != o || !is) {
				t.Errorf("Entry of %v of %d = %d, %v, %v", o, i, thread, got, is)
			}
			if i >= 8 && (thread != 0 || got != api.Op{} || is) {
				t.Errorf("Entry of %v of %d = %d, %v, %v", o, i, thread, got, is)
			}
		}
	}
}

func noEntry(t *testing.T, b string) {
	t.Helper()
	if thread, o, is := script.Entry(b); thread != 0 || o != (api.Op{}) || is {
		t.Errorf("Entry(%q) = %d, %v, %v", b, thread, o, is)
	}
}

func TestP7_2EntryOfOtherBytes(t *testing.T) {
	for _, o := range oneOfEach() {
		e := op(5, o)
		for n := range size {
			noEntry(t, e[:n])
			noEntry(t, e[n+1:])
		}
		noEntry(t, e+"\x00")
		noEntry(t, "\x00"+e)
		noEntry(t, e+e)
		for first := range 256 {
			if first != 2 {
				noEntry(t, change(e, 0, first))
			}
		}
	}
	noEntry(t, "")
	noEntry(t, caps(4, 32, 64, 2, 1))
	noEntry(t, pick(1, 1))
	noEntry(t, strings.Repeat("\xff", size))
	noEntry(t, strings.Repeat("\x00", size))
	noEntry(t, strings.Repeat("\x02", 1<<16))
}

// Each byte of each field of each kind: it is an entry exactly if the operation is valid.
func TestP7_2EntryOfEachByte(t *testing.T) {
	for _, o := range oneOfEach() {
		e := op(7, o)
		for i := 2; i < size; i++ {
			for x := range 256 {
				b := change(e, i, x)
				want := api.Op{Kind: int(b[2]), Name: rec(int(b[3])-1, int(b[4])-1), Mode: api.Mode(b[5]), Value: int64(b[6]), Wait: int64(b[7])}
				if script.Op(want) != api.OK {
					noEntry(t, b)
				} else if thread, got, is := script.Entry(b); thread != 7 || got != want || !is {
					t.Errorf("Entry(%q) = %d, %v, %v", b, thread, got, is)
				}
			}
		}
	}
}

func TestP7_2Each(t *testing.T) {
	const digits = "0123456789abcdefghijklmnopqrstuvwxyz"
	for n := range len(digits) + 1 {
		each := script.Each(digits[:n])
		for range 2 {
			var want []string
			for i := 0; i+8 <= n; i += 8 {
				want = append(want, digits[i:i+8])
			}
			if got := slices.Collect(each); !slices.Equal(got, want) {
				t.Errorf("Each of %d bytes yields %q", n, got)
			}
		}
	}
}

func TestP7_2EachIsLeftEarly(t *testing.T) {
	each := script.Each(inFull(usual()))
	for n := 1; n <= 22; n++ {
		left := n
		for range each {
			if left--; left == 0 {
				break
			}
		}
		if left != 0 {
			t.Errorf("Each ended %d early", left)
		}
	}
	if l := slices.Collect(each); strings.Join(l, "") != inFull(usual()) || len(l) != 22 {
		t.Errorf("Each yields %q after it was left", l)
	}
}

// An iteration goes on where it is, also while another one of the same iterator runs.
func TestP7_2EachWithinEach(t *testing.T) {
	each := script.Each("aaaaaaaabbbbbbbbcccccccc")
	got := ""
	for a := range each {
		for b := range each {
			got += a[:1] + b[:1] + " "
		}
	}
	if got != "aa ab ac ba bb bc ca cb cc " {
		t.Error(got)
	}
}

// randomScript is a valid script.
func randomScript(r *rand.Rand) api.Script {
	s := api.Script{
		Threads: make([][]api.Op, 1+r.Intn(mostThreads)),
		Picks:   manyPicks(r.Intn(50)),
		Caps:    api.Caps{Stripes: 1 + r.Intn(16), Heads: 1 + r.Intn(64), Requests: 1 + r.Intn(128), Pool: r.Intn(9)},
	}
	r.Shuffle(len(s.Picks), func(i, j int) { s.Picks[i], s.Picks[j] = s.Picks[j], s.Picks[i] })
	for i := range s.Threads {
		for range r.Intn(mostOps + 1) {
			s.Threads[i] = append(s.Threads[i], randomOp(r))
		}
	}
	return s
}

func randomOp(r *rand.Rand) api.Op {
	o := oneOfEach()[r.Intn(11)]
	rule := rules()[o.Kind]
	o.Name = rule.names[r.Intn(len(rule.names))]
	o.Mode = rule.modes[r.Intn(len(rule.modes))]
	if rule.value {
		o.Value = r.Int63n(256)
	}
	if rule.wait {
		o.Wait = r.Int63n(256)
	}
	return o
}

func TestP7_3ReadOfBytes(t *testing.T) {
	r := rand.New(rand.NewSource(73))
	l := []api.Script{usual(), smallest(), greatest(), empty(1), empty(8)}
	for range 500 {
		l = append(l, randomScript(r))
	}
	for n, s := range l {
		b, e := script.Bytes(s)
		if e != api.OK {
			t.Errorf("%d: Bytes = %d", n, e)
		}
		reads(t, n, b, s)
	}
}

// Bytes of what was read from any bytes are read as the same script.
func TestP7_3BytesOfRead(t *testing.T) {
	r := rand.New(rand.NewSource(37))
	for n := range 1000 {
		raw := make([]byte, r.Intn(400))
		for i := range raw {
			raw[i] = byte(r.Intn(256) >> r.Intn(9))
		}
		for _, b := range []string{string(raw), randomBytes(r, r.Intn(40))} {
			s := script.Read(b)
			again, e := script.Bytes(s)
			if e != api.OK {
				t.Errorf("%d: Bytes of what was read = %d", n, e)
			}
			reads(t, n, again, s)
		}
	}
}

func TestExamples(t *testing.T) {
	s := script.Read("")
	if len(s.Threads) != 1 || len(s.Threads[0]) != 0 || len(s.Picks) != 0 || s.Caps != script.Caps() {
		t.Errorf("Read of no bytes = %v", s)
	}
}
