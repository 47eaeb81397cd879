package history_test

import (
	"math"
	"testing"

	"latchstring/api"
	"latchstring/history"
)

func text(t *testing.T, v api.Event, want string) {
	t.Helper()
	if got := history.Text(v); got != want {
		t.Errorf("Text(%v) = %q, want %q", v, got, want)
	}
}

// acquires is the beginning of an acquire of t2 in X, by 1.
func acquires() api.Event {
	return api.Event{Invoke: true, Act: api.Act{Kind: 1, Txn: 1, Name: tab(2), Mode: api.X}}
}

func TestP8_3TextOfBeginnings(t *testing.T) {
	text(t, acquires(), "t0 c0 acquire x1 t2 X")
	text(t, api.Event{Call: 31, Thread: 7, Invoke: true, Act: api.Act{Kind: 2, Txn: 12, Name: rec(3, 70)}}, "t7 c31 release x12 t3.r70 none")
	text(t, api.Event{Call: 1, Thread: 2, Invoke: true, Act: api.Act{Kind: 3, Txn: 4, Name: db(), Mode: api.SIX}}, "t2 c1 releaseall x4 db SIX")
	text(t, api.Event{Call: 10, Invoke: true, Act: api.Act{Kind: 4, Name: tab(99), Mode: api.IS}}, "t0 c10 pass x0 t99 IS")
	text(t, api.Event{Invoke: true}, "t0 c0 ? x0 t0.r0 none")
}

func TestP8_3TextOfEachKind(t *testing.T) {
	words := map[int]string{1: "acquire", 2: "release", 3: "releaseall", 4: "pass"}
	for _, i := range numbers() {
		word, is := words[i]
		if !is {
			word = "?"
		}
		text(t, with(acquires(), func(v *api.Event) { v.Act.Kind = i }), "t0 c0 "+word+" x1 t2 X")
	}
}

func TestP8_3TextOfEachMode(t *testing.T) {
	words := map[int]string{0: "none", 1: "IS", 2: "IX", 3: "S", 4: "SIX", 5: "U", 6: "X"}
	for _, i := range numbers() {
		word, is := words[i]
		if !is {
			word = "?"
		}
		text(t, with(acquires(), func(v *api.Event) { v.Act.Mode = api.Mode(i) }), "t0 c0 acquire x1 t2 "+word)
	}
}

func TestP8_3TextOfNames(t *testing.T) {
	for n, word := range map[api.Name]string{
		db(): "db", tab(0): "t0", tab(99): "t99", rec(0, 0): "t0.r0", rec(99, 99): "t99.r99", rec(10, 9): "t10.r9",
		tab(100): "?", rec(0, 100): "?", tab(-2): "?", rec(-1, 0): "?", rec(3, -2): "?", rec(math.MinInt, math.MaxInt): "?",
	} {
		text(t, with(acquires(), func(v *api.Event) { v.Act.Name = n }), "t0 c0 acquire x1 "+word+" X")
	}
}

func TestP8_3TextOfEnds(t *testing.T) {
	words := map[int]string{1: "granted", 2: "timeout", 3: "cancelled", 4: "deadlock", 5: "full", 6: "misuse"}
	for _, i := range numbers() {
		word, is := words[i]
		if !is {
			word = "?"
		}
		text(t, end(3, 14, i), "t3 c14 "+word)
	}
}

// An end tells its code alone, a beginning everything but that, whatever else they have.
func TestP8_3TextOfWhatDoesNotBelong(t *testing.T) {
	text(t, with(acquires(), func(v *api.Event) { v.Invoke, v.Act.Code = false, 2 }), "t0 c0 timeout")
	text(t, with(acquires(), func(v *api.Event) { v.Invoke = false }), "t0 c0 ?")
	text(t, with(acquires(), func(v *api.Event) { v.Act.Code = 2 }), "t0 c0 acquire x1 t2 X")
}

func TestP8_3TextOfNumbers(t *testing.T) {
	for i, decimal := range map[int]string{
		-1: "-1", 9: "9", 10: "10", 100: "100", 1 << 32: "4294967296",
		math.MaxInt: "9223372036854775807", math.MinInt: "-9223372036854775808",
	} {
		text(t, end(i, 8, 5), "t"+decimal+" c8 full")
		text(t, end(8, i, 6), "t8 c"+decimal+" misuse")
		text(t, with(acquires(), func(v *api.Event) { v.Act.Txn = i }), "t0 c0 acquire x"+decimal+" t2 X")
		text(t, with(acquires(), func(v *api.Event) { v.Thread, v.Call = i, 3 }), "t"+decimal+" c3 acquire x1 t2 X")
	}
}
