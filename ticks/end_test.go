package ticks

import (
	"math"
	"slices"
	"testing"

	"latchstring/api"
)

// nearEnd is a clock close to the greatest time: no number of ticks that a test can wait for leads there.
func nearEnd(left int64) *Clock {
	c := New()
	c.now = math.MaxInt64 - left
	return c
}

func TestP4_2TimeEndsAtTheGreatestInt64(t *testing.T) {
	for _, p := range []struct {
		left int64
		n    int
		now  int64
	}{
		{5, 4, math.MaxInt64 - 1},
		{5, 5, math.MaxInt64},
		{5, 6, math.MaxInt64},
		{5, 1000, math.MaxInt64},
		{1000, 999, math.MaxInt64 - 1},
		{1000, 1000, math.MaxInt64},
		{1001, 1000, math.MaxInt64 - 1},
		{0, 0, math.MaxInt64},
		{0, 1, math.MaxInt64},
		{0, 1000, math.MaxInt64},
	} {
		c := nearEnd(p.left)
		if l, e := c.Pass(p.n); e != api.OK || len(l) != 0 || c.Now() != p.now {
			t.Errorf("Pass(%d) with %d left = %v, %d; Now() = %d", p.n, p.left, l, e, c.Now())
		}
	}
}

func TestP4_2TimersAtTheEnd(t *testing.T) {
	c := nearEnd(3)
	last, before := api.Timer{At: math.MaxInt64, Who: 1}, api.Timer{At: math.MaxInt64 - 1, Who: 2}
	for _, x := range []api.Timer{last, before} {
		if e := c.Set(x.At, x.Who, x.Mark); e != api.OK {
			t.Fatalf("Set(%v) = %d", x, e)
		}
	}
	if got := slices.Collect(c.Each()); !slices.Equal(got, []api.Timer{before, last}) {
		t.Errorf("Each() yields %v", got)
	}
	if l, e := c.Pass(2); e != api.OK || !slices.Equal(l, []api.Timer{before}) {
		t.Errorf("Pass(2) = %v, %d", l, e)
	}
	if l, e := c.Pass(1000); e != api.OK || !slices.Equal(l, []api.Timer{last}) {
		t.Errorf("Pass(1000) = %v, %d", l, e)
	}
	if e := c.Set(math.MaxInt64, 1, 0); e != api.ErrArg {
		t.Errorf("Set at the end = %d", e)
	}
	if l, e := c.Pass(1000); e != api.OK || len(l) != 0 || c.Now() != math.MaxInt64 {
		t.Errorf("Pass(1000) at the end = %v, %d; Now() = %d", l, e, c.Now())
	}
	if _, e := c.Pass(1001); e != api.ErrArg {
		t.Errorf("Pass(1001) at the end = %d", e)
	}
}
