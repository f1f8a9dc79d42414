package queue_test

import (
	"math/rand"
	"slices"
	"testing"

	"sentry/api"
	"sentry/queue"
)

// pair is a due and a what.
type pair struct{ due, what int }

// row is the queue as a row that is always in order: slow, but plain to see through.
type row []pair

// before tells whether a comes ahead of b.
func before(a, b pair) bool {
	return a.due < b.due || a.due == b.due && a.what < b.what
}

func (r *row) push(p pair) bool {
	if len(*r) == api.MaxQueue {
		return false
	}
	at := 0
	for at < len(*r) && before((*r)[at], p) {
		at++
	}
	*r = slices.Insert(*r, at, p)
	return true
}

func (r *row) pop() (int, int, bool) {
	due, what, ok := r.peek()
	if ok {
		*r = (*r)[1:]
	}
	return due, what, ok
}

func (r *row) peek() (int, int, bool) {
	if len(*r) == 0 {
		return 0, 0, false
	}
	return (*r)[0].due, (*r)[0].what, true
}

// tried is a queue with the row that it must be.
type tried struct {
	q    *queue.Queue
	want row
}

func newTried() *tried { return &tried{q: queue.New()} }

// filled is one with these put in, one behind the other.
func filled(t *testing.T, in ...pair) *tried {
	t.Helper()
	x := newTried()
	for _, p := range in {
		x.push(t, p)
	}
	return x
}

// look holds what changes nothing, each twice, as the first might have changed something.
func (x *tried) look(t *testing.T) {
	t.Helper()
	due, what, ok := x.want.peek()
	for range 2 {
		if gotDue, gotWhat, got := x.q.Peek(); gotDue != due || gotWhat != what || got != ok {
			t.Fatalf("Peek: %d, %d, %v, not %d, %d, %v", gotDue, gotWhat, got, due, what, ok)
		}
		if n := x.q.Len(); n != len(x.want) {
			t.Fatalf("Len: %d, not %d", n, len(x.want))
		}
	}
}

func (x *tried) push(t *testing.T, p pair) {
	t.Helper()
	ok := x.want.push(p)
	if got := x.q.Push(p.due, p.what); got != ok {
		t.Fatalf("Push of %v, with %d in it: %v", p, len(x.want), got)
	}
	x.look(t)
}

func (x *tried) pop(t *testing.T) {
	t.Helper()
	due, what, ok := x.want.pop()
	if gotDue, gotWhat, got := x.q.Pop(); gotDue != due || gotWhat != what || got != ok {
		t.Fatalf("Pop: %d, %d, %v, not %d, %d, %v", gotDue, gotWhat, got, due, what, ok)
	}
	x.look(t)
}

// copied is its Copy, with the row that it must be.
func (x *tried) copied(t *testing.T) *tried {
	t.Helper()
	c := &tried{q: x.q.Copy(), want: slices.Clone(x.want)}
	if c.q == nil || c.q == x.q {
		t.Fatal("the Copy is no other queue")
	}
	c.look(t)
	x.look(t)
	return c
}

// drain takes all out, and once more; all that comes rises.
func (x *tried) drain(t *testing.T) {
	t.Helper()
	x.look(t)
	var got []pair
	for {
		due, what, ok := x.q.Pop()
		if !ok {
			break
		}
		got = append(got, pair{due, what})
		if len(got) > len(x.want) {
			t.Fatalf("more than the %d that are in it", len(x.want))
		}
	}
	if !slices.Equal(got, x.want) {
		t.Fatalf("popped\n%v\nnot\n%v", got, x.want)
	}
	x.want = nil
	x.look(t)
	x.pop(t)
}

// permutations calls of each order of a row.
func permutations[T any](list []T, do func([]T)) {
	if len(list) == 0 {
		do(nil)
		return
	}
	for i, first := range list {
		permutations(slices.Delete(slices.Clone(list), i, i+1), func(rest []T) {
			do(append([]T{first}, rest...))
		})
	}
}

// pairs are all of these numbers.
func pairs(numbers ...int) []pair {
	var out []pair
	for _, due := range numbers {
		for _, what := range numbers {
			out = append(out, pair{due, what})
		}
	}
	return out
}

// some are n pairs of numbers from -most to most.
func some(r *rand.Rand, n, most int) []pair {
	out := make([]pair, n)
	for i := range out {
		out[i] = pair{r.Intn(2*most+1) - most, r.Intn(2*most+1) - most}
	}
	return out
}
