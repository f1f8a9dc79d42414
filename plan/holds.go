package plan

import (
	"slices"

	"sentry/api"
	"sentry/model"
)

// sentries is an item's Exit, or its Entry; nothing, if there is no such item.
func (c *Case) sentries(id string, exit bool) []api.Sentry {
	i := model.Place(c.m, id)
	if i < 0 {
		return nil
	}
	if exit {
		return c.m.Items[i].Exit
	}
	return c.m.Items[i].Entry
}

// holds tells whether a sentry does.
func (c *Case) holds(s api.Sentry) bool {
	return !slices.ContainsFunc(s.On, c.isToCome) && !slices.ContainsFunc(s.If, c.isNotSo)
}

// isToCome tells whether an event has not happened yet.
func (c *Case) isToCome(on api.On) bool {
	_, ok := c.happened[on]
	return !ok
}

// isNotSo tells whether a condition does not hold of the file as it is.
func (c *Case) isNotSo(cond api.Cond) bool {
	return !compares(c.File(cond.File), cond.Op, cond.N)
}

// compares tells whether a number stands so to another one.
func compares(a int, op string, b int) bool {
	switch op {
	case "<":
		return a < b
	case "<=":
		return a <= b
	case "=":
		return a == b
	case "!=":
		return a != b
	case ">=":
		return a >= b
	}
	return a > b
}
