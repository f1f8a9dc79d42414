package norm

import (
	"cmp"
	"slices"
	"strings"

	"sentry/api"
)

// Package api gives what stands in a model without methods. Here each has its
// order, that of its method cmp.

type on api.On

func (a on) cmp(b on) int {
	return cmp.Or(strings.Compare(a.Item, b.Item), cmp.Compare(a.Event, b.Event))
}

type cond api.Cond

func (a cond) cmp(b cond) int {
	return cmp.Or(strings.Compare(a.File, b.File), strings.Compare(a.Op, b.Op), cmp.Compare(a.N, b.N))
}

type sentry struct {
	on   []on
	cond []cond
}

func (a sentry) cmp(b sentry) int {
	return cmp.Or(slices.CompareFunc(a.on, b.on, on.cmp), slices.CompareFunc(a.cond, b.cond, cond.cmp))
}

// item is an item with its way: the IDs from the plan's down to its own. The
// way of a Stage is the beginning of the ways of all that stands in it: so by
// ways these stand behind it, together.
type item struct {
	way   []string
	plain api.Item
}

func (a item) cmp(b item) int {
	return slices.Compare(a.way, b.way)
}

// once puts a row in an order, and leaves one of those that are one.
func once[T any](row []T, order func(a, b T) int) []T {
	slices.SortFunc(row, order)
	return slices.CompactFunc(row, func(a, b T) bool { return order(a, b) == 0 })
}
