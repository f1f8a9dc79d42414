package queue_test

import (
	"math"
	"math/rand"
	"slices"
	"testing"

	"sentry/api"
	"sentry/queue"
)

// P8.1: the example of the chapter, and the others behind it.
func TestExample(t *testing.T) {
	q := queue.New()
	if !q.Push(5, 1) || !q.Push(3, 9) {
		t.Fatal("refused")
	}
	for _, want := range []pair{{3, 9}, {5, 1}} {
		if due, what, ok := q.Pop(); !ok || due != want.due || what != want.what {
			t.Errorf("%d, %d, %v, not %v", due, what, ok, want)
		}
	}
	if due, what, ok := q.Pop(); ok || due != 0 || what != 0 {
		t.Error("more came out than was put in")
	}
}

// P8.1, P8.2: every order of short rows comes out rising by due, of one due by what;
// those that are one come as often as they were put in.
func TestEveryOrder(t *testing.T) {
	for _, list := range [][]pair{
		{{1, 1}},
		{{1, 1}, {2, 2}, {3, 3}, {4, 4}, {5, 5}, {6, 6}, {7, 7}},
		{{4, 1}, {4, 2}, {4, 3}, {4, 4}, {4, 5}, {4, 6}},
		{{1, 6}, {2, 5}, {3, 4}, {4, 3}, {5, 2}, {6, 1}},
		{{1, 9}, {1, -9}, {2, 0}, {2, 0}, {-2, 7}, {2, -1}},
		{{3, 3}, {3, 3}, {3, 3}, {3, 4}, {2, 9}},
		{{0, 0}, {0, 0}, {0, -1}, {-1, 0}, {-1, 1}, {1, -1}},
		{{math.MinInt, math.MaxInt}, {math.MinInt, math.MinInt}, {math.MaxInt, math.MinInt}, {math.MaxInt, math.MaxInt}, {-1, 1}, {1, -1}},
	} {
		permutations(list, func(in []pair) { filled(t, in...).drain(t) })
	}
}

// P8.1: the least and the greatest numbers there are; a difference of two of them would wrap.
func TestGreatNumbers(t *testing.T) {
	all := pairs(math.MinInt, math.MinInt+1, -1, 0, 1, math.MaxInt-1, math.MaxInt)
	for _, a := range all {
		filled(t, a).drain(t)
		for _, b := range all {
			filled(t, a, b).drain(t)
		}
	}
	filled(t, all...).drain(t)
	slices.Reverse(all)
	filled(t, all...).drain(t)
}

// P8.1: numbers that differ in their high bits alone.
func TestHighBits(t *testing.T) {
	filled(t, pairs(0, 1<<31, 1<<32, 1<<33, 1<<62, -1<<31, -1<<32, -1<<62)...).drain(t)
}

// P8.1: many that are one.
func TestManyOfOne(t *testing.T) {
	x := newTried()
	for range api.MaxQueue {
		x.push(t, pair{-4, 7})
	}
	x.push(t, pair{-4, 7})
	x.drain(t)
}

// P8.1: a queue takes as many as MaxQueue, whatever they are, and in whatever order they come; one that is refused
// changes nothing; once one was taken out one more goes in.
func TestFull(t *testing.T) {
	rising := make([]pair, api.MaxQueue)
	for i := range rising {
		rising[i] = pair{i / 7, i % 7}
	}
	falling := slices.Clone(rising)
	slices.Reverse(falling)
	for _, in := range [][]pair{rising, falling, make([]pair, api.MaxQueue), some(rand.New(rand.NewSource(1)), api.MaxQueue, 20)} {
		x := filled(t, in...)
		if x.q.Len() != api.MaxQueue {
			t.Fatalf("%d in it", x.q.Len())
		}
		for range 3 {
			for _, p := range append(pairs(math.MinInt, 0, math.MaxInt), in[0]) {
				x.push(t, p)
			}
			x.pop(t)
			x.push(t, pair{-1, 3})
		}
		x.push(t, pair{})
		for range 10 {
			x.pop(t)
		}
		for i := range 11 {
			x.push(t, pair{i, -i})
		}
		x.drain(t)
		x.push(t, pair{1, 1})
		x.drain(t)
	}
}

// P8.1: as many may go through it as one will, if not more than MaxQueue are in it at a time.
func TestManyThrough(t *testing.T) {
	x := newTried()
	for i := range 30 * api.MaxQueue {
		x.push(t, pair{i % 13, -i})
		x.push(t, pair{-i, i % 11})
		x.pop(t)
		x.pop(t)
	}
	x.drain(t)
}

// P8.1: of a queue with nothing in it Peek and Pop are 0, 0, false, as often as they are asked; it goes on behind that.
func TestNothing(t *testing.T) {
	x := newTried()
	for range 3 {
		x.look(t)
		for range 3 {
			x.pop(t)
		}
		x.push(t, pair{8, 9})
		x.push(t, pair{-8, -9})
		x.pop(t)
		x.pop(t)
	}
	x.drain(t)
}

// P8.1: what is in it may be 0, 0; ok tells it from nothing.
func TestNought(t *testing.T) {
	x := filled(t, pair{})
	if due, what, ok := x.q.Peek(); due != 0 || what != 0 || !ok {
		t.Error(due, what, ok)
	}
	x.drain(t)
}

// P8.1, P8.2: every way of few steps, each a Push of one of three things, or a Pop.
func TestEveryWay(t *testing.T) {
	things := []pair{{1, 1}, {1, 2}, {0, 3}}
	const steps = 7
	for way := range 1 << (2 * steps) {
		x := newTried()
		for i := range steps {
			if step := way >> (2 * i) & 3; step < len(things) {
				x.push(t, things[step])
			} else {
				x.pop(t)
			}
		}
		x.drain(t)
	}
}

// P8.1, P8.2: put in and taken out by turns, the least one always comes.
func TestByTurns(t *testing.T) {
	for seed := range int64(300) {
		r := rand.New(rand.NewSource(seed))
		x := newTried()
		most, pushes := 1<<r.Intn(40), 1+r.Intn(9)
		for range 400 {
			if r.Intn(10) < pushes {
				x.push(t, some(r, 1, most)[0])
			} else {
				x.pop(t)
			}
		}
		x.drain(t)
	}
}

// P8.2: all that is Popped, one behind the other, rises, whatever was put in.
func TestRises(t *testing.T) {
	r := rand.New(rand.NewSource(8))
	for range 200 {
		q := queue.New()
		n := r.Intn(api.MaxQueue + 1)
		for _, p := range some(r, n, 1+r.Intn(200)) {
			q.Push(p.due, p.what)
		}
		last := pair{math.MinInt, math.MinInt}
		for range n {
			due, what, ok := q.Pop()
			next := pair{due, what}
			if !ok || before(next, last) {
				t.Fatalf("%v behind %v, %v", next, last, ok)
			}
			last = next
		}
	}
}

// P8.2: a nil Queue takes nothing, has nothing in it, its Copy is nil.
func TestNil(t *testing.T) {
	var q *queue.Queue
	for range 2 {
		if q.Push(0, 0) || q.Push(1, 2) || q.Push(math.MinInt, math.MaxInt) {
			t.Error("it took something")
		}
		if due, what, ok := q.Peek(); due != 0 || what != 0 || ok {
			t.Error("Peek:", due, what, ok)
		}
		if due, what, ok := q.Pop(); due != 0 || what != 0 || ok {
			t.Error("Pop:", due, what, ok)
		}
		if q.Len() != 0 {
			t.Error("Len:", q.Len())
		}
		if q.Copy() != nil {
			t.Error("its Copy is not nil")
		}
	}
}

// W1: a Queue that New didn't make has nothing in it, and goes on as one of New.
func TestNotOfNew(t *testing.T) {
	for _, first := range []func(x *tried){
		func(x *tried) { x.look(t) },
		func(x *tried) { x.pop(t) },
		func(x *tried) { x.push(t, pair{2, 3}) },
		func(x *tried) {
			c := x.copied(t)
			c.push(t, pair{5, 6})
			c.drain(t)
		},
	} {
		x := &tried{q: new(queue.Queue)}
		first(x)
		for i := range api.MaxQueue + 1 {
			x.push(t, pair{-i % 5, i})
		}
		x.drain(t)
	}
}

// W8: one that is copied as a value goes on as that value.
func TestCopiedAsValue(t *testing.T) {
	x := filled(t, pairs(3, 1, 2)...)
	x.pop(t)
	value := *x.q
	y := &tried{q: &value, want: x.want}
	y.look(t)
	y.push(t, pair{0, 0})
	y.pop(t)
	y.copied(t).drain(t)
	y.drain(t)
}

// W2: two that New makes go on for themselves.
func TestTwoOfNew(t *testing.T) {
	x, y := newTried(), newTried()
	for i := range api.MaxQueue {
		x.push(t, pair{i, i})
		y.look(t)
		y.push(t, pair{-i, -i})
		x.look(t)
	}
	x.drain(t)
	y.drain(t)
}

// W2: what a call answers hangs on what is in the queue, not on how it came to be in it.
func TestNoWayIsSeen(t *testing.T) {
	list := []pair{{1, 4}, {1, 4}, {1, -2}, {3, 0}, {-6, 9}, {3, 0}}
	var ways []*tried
	permutations(list, func(in []pair) {
		ways = append(ways, filled(t, in...))
		x := filled(t, pair{-9, 0}, pair{-9, 1})
		x.push(t, in[0])
		x.push(t, pair{-8, 2})
		x.pop(t)
		for _, p := range in[1:4] {
			x.push(t, p)
		}
		x = x.copied(t)
		x.pop(t)
		x.pop(t)
		for _, p := range in[4:] {
			x.push(t, p)
		}
		ways = append(ways, x)
	})
	want := slices.Clone(ways[0].want)
	for _, x := range ways {
		if !slices.Equal(x.want, want) {
			t.Fatalf("%v is another one", x.want)
		}
		x.push(t, pair{2, 2})
		x.pop(t)
		x.pop(t)
		x.push(t, pair{1, 4})
		x.drain(t)
	}
}

// P8.1, P8.2, W1: any pushes, pops and copies by turns, of any numbers.
func FuzzTurns(f *testing.F) {
	f.Add([]byte{})
	f.Add([]byte{0, 1, 2, 255, 254, 3, 3, 255, 7, 7, 253, 255})
	f.Add(slices.Repeat([]byte{1, 9, 200, 4}, 40))
	f.Fuzz(func(t *testing.T, turns []byte) {
		x := newTried()
		for i, turn := range turns {
			switch {
			case turn == 255:
				x.pop(t)
			case turn == 254:
				x.copied(t).drain(t)
			case turn == 253:
				x = x.copied(t)
			case turn >= 240:
				x.push(t, pair{math.MinInt + int(turn), math.MaxInt - i})
			default:
				x.push(t, pair{int(turn%16) - 8, int(turn/16) - 8})
			}
		}
		x.drain(t)
	})
}
