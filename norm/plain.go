package norm

import (
	"slices"

	"sentry/api"
	"sentry/model"
)

// each is a new row of what all that a row has is turned to.
func each[T, U any](row []T, turn func(T) U) []U {
	if len(row) == 0 {
		return nil
	}
	out := make([]U, len(row))
	for i, x := range row {
		out[i] = turn(x)
	}
	return out
}

func onOf(x api.On) on { return on(x) }

func (x on) plain() api.On { return api.On(x) }

func condOf(x api.Cond) cond { return cond(x) }

func (x cond) plain() api.Cond { return api.Cond(x) }

func sentryOf(x api.Sentry) sentry {
	return sentry{on: each(x.On, onOf), cond: each(x.If, condOf)}
}

func (x sentry) plain() api.Sentry {
	return api.Sentry{On: each(x.on, on.plain), If: each(x.cond, cond.plain)}
}

// itemsOf are a model's items with their ways. Each one's Parent stands ahead
// of it, with its way.
func itemsOf(m api.Model) []item {
	var row []item
	for _, x := range m.Items {
		var way []string
		if parent := model.Place(m, x.Parent); parent >= 0 {
			way = slices.Clone(row[parent].way)
		}
		row = append(row, item{way: append(way, x.ID), plain: x})
	}
	return row
}

// inOrder is the item with its sentries in order.
func (x item) inOrder() api.Item {
	out := x.plain
	out.Entry, out.Exit = sentriesInOrder(out.Entry), sentriesInOrder(out.Exit)
	return out
}

// sentriesInOrder are sentries in order. What stands in them comes first: two
// may be one only then.
func sentriesInOrder(plain []api.Sentry) []api.Sentry {
	var row []sentry
	for _, x := range plain {
		s := sentryOf(x)
		slices.SortFunc(s.on, on.cmp)
		s.cond = once(s.cond, cond.cmp)
		row = append(row, s)
	}
	return each(once(row, sentry.cmp), sentry.plain)
}
