package plan

import (
	"slices"

	"sentry/api"
	"sentry/model"
)

// What a round asks of an item: each is the event that the item does by itself,
// if it does it. All rely on nothing but how it all was at the round's beginning.

func (c *Case) exits(i int) int {
	if isThere(c.states[i]) && slices.ContainsFunc(c.m.Items[i].Exit, c.holds) {
		return api.Exit
	}
	return none
}

func (c *Case) starts(i int) int {
	item := c.m.Items[i]
	if c.states[i] != api.Ready || c.exits(i) != none || len(item.Entry) > 0 && !slices.ContainsFunc(item.Entry, c.holds) {
		return none
	}
	switch item.Kind {
	case api.Stage, api.Task:
		return api.Start
	case api.Milestone:
		return api.Occur
	}
	return none
}

func (c *Case) creates(i int) int {
	if c.states[i] == api.Wait && c.State(c.m.Items[i].Parent) == api.Open {
		return api.Create
	}
	return none
}

func (c *Case) completes(i int) int {
	item := c.m.Items[i]
	if item.Kind != api.Stage || c.states[i] != api.Open || c.exits(i) != none || slices.ContainsFunc(model.Kids(c.m, item.ID), c.holdsUp) {
		return none
	}
	return api.Complete
}

// holdsUp tells whether a Stage may not Complete, as this one is among its Kids.
func (c *Case) holdsUp(i int) bool {
	if c.states[i] == api.Ready {
		return c.m.Items[i].Required || c.starts(i) != none
	}
	return !isPast(c.states[i])
}
