package queue_test

import (
	"math/rand"
	"testing"

	"sentry/api"
)

// bothWays changes the one and looks at the other, then the other way round, and by turns.
func bothWays(t *testing.T, make func() *tried) {
	t.Helper()
	for _, swap := range []bool{false, true} {
		for _, act := range []func(x *tried, i int){
			func(x *tried, i int) { x.push(t, pair{-i, i}) },
			func(x *tried, i int) { x.push(t, pair{i, -i}) },
			func(x *tried, _ int) { x.pop(t) },
			func(x *tried, i int) { x.pop(t); x.push(t, pair{i - 3, 5}) },
		} {
			x := make()
			y := x.copied(t)
			if swap {
				x, y = y, x
			}
			for i := range 6 {
				act(x, i)
				y.look(t)
			}
			for i := range 6 {
				y.push(t, pair{i % 2, -i})
				x.look(t)
				x.push(t, pair{-i, i % 2})
				y.look(t)
			}
			x.drain(t)
			y.drain(t)
		}
	}
}

// P8.1: Copy is another one with the same in it, and each goes on for itself: of one with few in it, with nothing in it,
// that is full, or all but full, and of one that has room left by those that were taken out.
func TestCopy(t *testing.T) {
	bothWays(t, newTried)
	bothWays(t, func() *tried { return filled(t, pair{1, 2}) })
	bothWays(t, func() *tried { return filled(t, pairs(2, 0, 1, -5)...) })
	for _, n := range []int{api.MaxQueue, api.MaxQueue - 1, api.MaxQueue - 5} {
		bothWays(t, func() *tried { return filled(t, some(rand.New(rand.NewSource(5)), n, 6)...) })
	}
	bothWays(t, func() *tried {
		x := filled(t, some(rand.New(rand.NewSource(6)), 20, 9)...)
		for range 10 {
			x.pop(t)
		}
		return x
	})
	bothWays(t, func() *tried {
		x := filled(t, pair{4, 4}, pair{4, 4})
		x.pop(t)
		x.pop(t)
		return x
	})
}

// P8.1: a Copy takes as many as MaxQueue in all, as its first one does.
func TestCopyIsFullToo(t *testing.T) {
	for _, n := range []int{0, 1, 50, api.MaxQueue - 1, api.MaxQueue} {
		c := filled(t, some(rand.New(rand.NewSource(int64(n))), n, 4)...).copied(t)
		for i := range api.MaxQueue - n {
			c.push(t, pair{i, 1})
		}
		c.push(t, pair{-9, -9})
		if c.q.Len() != api.MaxQueue {
			t.Errorf("%d in it", c.q.Len())
		}
		c.drain(t)
	}
}

// P8.1, W7: a row of Copies, of one another too, at all steps: each keeps what was in it.
func TestCopiesOfAllSteps(t *testing.T) {
	for seed := range int64(40) {
		r := rand.New(rand.NewSource(seed))
		all := []*tried{newTried()}
		for range 60 {
			x := all[r.Intn(len(all))]
			switch r.Intn(3) {
			case 0:
				x.pop(t)
			case 1:
				all = append(all, x.copied(t))
			}
			x.push(t, some(r, 1, 5)[0])
			for _, y := range all {
				y.look(t)
			}
		}
		for _, y := range all {
			y.drain(t)
		}
	}
}

// P8.1: Copy changes nothing in what it copies, and doesn't hang on it any more.
func TestCopyOfDrained(t *testing.T) {
	x := filled(t, some(rand.New(rand.NewSource(2)), 30, 9)...)
	c := x.copied(t)
	x.drain(t)
	for i := range 30 {
		x.push(t, pair{-100, i})
	}
	c.copied(t).drain(t)
	c.drain(t)
	x.drain(t)
}
