package bucket_test

import (
	"math"
	"math/rand"
	"slices"
	"testing"

	"latchstring/api"
	"latchstring/bucket"
)

func TestP11_3GetAndFind(t *testing.T) {
	b, ids := made(t, 3, 6)
	ask(t, b, record(1, 0), 1, api.S, 0, true)
	ask(t, b, record(0, 1), 2, api.X, 1, true)
	ask(t, b, record(1, 0), 2, api.X, 2, false)
	ask(t, b, record(1, 0), 0, api.IS, 3, false)
	holds(t, b, ids,
		head(record(0, 1), 0, has(1, 2, api.X)),
		head(record(1, 0), 2, has(0, 1, api.S), wants(2, 2, api.X, 1), wants(3, 0, api.IS, 2)))
	for _, id := range noIDs(4) {
		hasNo(t, b, id)
	}
	for _, txn := range []int{3, -1, math.MaxInt, math.MinInt, 1 << 32, 1<<32 + 1} {
		findsNo(t, b, record(1, 0), txn)
	}
	findsNo(t, b, record(0, 1), 1)
	for _, n := range []api.Name{table(1), table(0), table(-1), {}, record(1, 1), record(1<<32+1, 0), record(math.MinInt, math.MaxInt)} {
		for _, txn := range []int{0, 1, 2} {
			findsNo(t, b, n, txn)
		}
	}
	// What only looks leaves no heads behind.
	if b.Len() != 2 || len(b.Heads()) != 2 {
		t.Error(b.Heads())
	}
}

func TestP11_3HeadsAscend(t *testing.T) {
	names := []api.Name{
		{Table: math.MinInt, Record: math.MaxInt}, {Table: -1, Record: -1}, {Table: -1, Record: 4},
		{Table: 0, Record: -1}, {Table: 0, Record: 0}, {Table: 0, Record: 9}, {Table: 0, Record: 10},
		{Table: 2, Record: -1}, {Table: 2, Record: 3}, {Table: 10, Record: math.MinInt}, {Table: 10, Record: 1},
		{Table: 256, Record: 0}, {Table: 1 << 32, Record: 0}, {Table: math.MaxInt, Record: math.MinInt}, {Table: math.MaxInt, Record: math.MaxInt},
	}
	for seed := range int64(50) {
		b, _ := made(t, len(names), len(names))
		for id, i := range rand.New(rand.NewSource(seed)).Perm(len(names)) {
			ask(t, b, names[i], 1, api.X, id, true)
		}
		var got []api.Name
		for _, h := range b.Heads() {
			got = append(got, h.Name)
		}
		if !slices.Equal(got, names) {
			t.Errorf("Heads() = %v", got)
		}
	}
}

func TestP11_3HeadsAreNew(t *testing.T) {
	b, ids := made(t, 2, 4)
	ask(t, b, table(0), 1, api.S, 0, true)
	ask(t, b, table(0), 2, api.X, 1, false)
	ask(t, b, table(1), 1, api.S, 2, true)
	want := []api.Head{
		head(table(0), 1, has(0, 1, api.S), wants(1, 2, api.X, 1)),
		head(table(1), 0, has(2, 1, api.S)),
	}
	a, c := b.Heads(), b.Heads()
	for i, h := range a {
		for j := range h.Queue[:cap(h.Queue)] {
			h.Queue[:cap(h.Queue)][j] = has(99, 99, api.IX)
		}
		a[i] = api.Head{}
	}
	if !sameHeads(c, want) {
		t.Errorf("%v, want %v", c, want)
	}
	holds(t, b, ids, want...)
	ask(t, b, table(0), 3, api.X, 3, false)
	leave(t, b, 0, 1)
	if !sameHeads(c, want) {
		t.Errorf("%v, want %v", c, want)
	}
}

// The lists of what was granted share nothing, with each other or with the bucket.
func TestP11_3WhatWasGrantedIsNew(t *testing.T) {
	b, ids := made(t, 1, 6)
	for i, m := range []api.Mode{api.X, api.S, api.S, api.X, api.S, api.S} {
		ask(t, b, table(0), i, m, i, i == 0)
	}
	first, _ := b.Leave(0)
	second, _ := b.Abandon(3)
	for _, l := range [][]int{first, second} {
		all := l[:cap(l)]
		for i := range all {
			all[i] += 100
		}
	}
	if !slices.Equal(first, []int{101, 102}) || !slices.Equal(second, []int{104, 105}) {
		t.Error(first, second)
	}
	holds(t, b, ids, head(table(0), 5, has(1, 1, api.S), has(2, 2, api.S), has(4, 4, api.S), has(5, 5, api.S)))
}

func TestInvalidBucket(t *testing.T) {
	whole, ids := made(t, 2, 4)
	ask(t, whole, table(0), 1, api.S, 0, true)
	ask(t, whole, table(0), 2, api.X, 1, false)
	copied := *whole
	for _, b := range []*bucket.Bucket{nil, {}, &copied} {
		for _, n := range []api.Name{table(0), table(1)} {
			for _, m := range []api.Mode{api.None, api.S, 7} {
				askNot(t, b, n, 1, m, api.ErrNil)
				askNot(t, b, n, 3, m, api.ErrNil)
			}
			for _, txn := range []int{0, 1, 2} {
				findsNo(t, b, n, txn)
			}
		}
		for _, id := range []int{-1, 0, 1, 2} {
			for _, m := range []api.Mode{api.None, api.S, 7} {
				upgrade(t, b, id, m, false, api.ErrNil)
			}
			leaveNot(t, b, id, api.ErrNil)
			abandonNot(t, b, id, api.ErrNil)
			hand(t, b, id, 1, api.ErrNil)
			hand(t, b, id, 3, api.ErrNil)
			hasNo(t, b, id)
		}
		if len(b.Heads()) != 0 || b.Len() != 0 {
			t.Error(b.Heads(), b.Len())
		}
	}
	holds(t, whole, ids, head(table(0), 1, has(0, 1, api.S), wants(1, 2, api.X, 1)))
}
