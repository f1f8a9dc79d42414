package queue

import "cmp"

// thing is one that is due.
type thing struct{ due, what int }

// things is a row of them that container/heap keeps: the first one is the least.
type things []thing

func (t things) Len() int { return len(t) }

// Less looks at what too, so that which of those of one due comes first doesn't
// hang on the way by which they came in. Nothing is subtracted, as it could wrap.
func (t things) Less(i, j int) bool {
	return cmp.Or(cmp.Compare(t[i].due, t[j].due), cmp.Compare(t[i].what, t[j].what)) < 0
}

func (t things) Swap(i, j int) { t[i], t[j] = t[j], t[i] }

// Push puts one behind the others, for heap.Push.
func (t *things) Push(x any) { *t = append(*t, x.(thing)) }

// Pop takes the last one off, for heap.Pop.
func (t *things) Pop() any {
	end := len(*t) - 1
	last := (*t)[end]
	*t = (*t)[:end]
	return last
}
