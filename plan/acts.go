package plan

import (
	"slices"

	"sentry/api"
	"sentry/model"
)

// isOver tells whether the plan is, so that nothing may happen any more.
func (c *Case) isOver() bool {
	return len(c.states) > 0 && isPast(c.states[0])
}

// user has an item do what a user wants.
func (c *Case) user(id string, event int) api.Errno {
	i := model.Place(c.m, id)
	// The plan is the first one.
	if i <= 0 {
		return api.ErrArg
	}
	if !c.userMay(i, event) {
		return api.ErrState
	}
	does := c.nothing()
	does[i] = event
	c.round(does)
	c.goOn()
	return api.OK
}

// userMay tells whether an item is such that a user may have it do this.
func (c *Case) userMay(i, event int) bool {
	kind, state := c.m.Items[i].Kind, c.states[i]
	switch event {
	case api.Complete:
		return kind == api.Task && state == api.Open
	case api.Occur:
		return kind == api.Listener && state == api.Ready
	case api.Exit:
		return isThere(state)
	}
	return false
}

// write has a number of the file be another one.
func (c *Case) write(file string, n int) api.Errno {
	i := slices.Index(c.m.Files, file)
	if i < 0 || n < -api.MaxN || n > api.MaxN {
		return api.ErrArg
	}
	c.numbers[i] = n
	c.goOn()
	return api.OK
}

// tick has one tick go by.
func (c *Case) tick() api.Errno {
	c.now++
	does := c.nothing()
	for due, i, ok := c.timers.Peek(); ok && due <= c.now; due, i, ok = c.timers.Peek() {
		c.timers.Pop()
		// One that did Exit ahead of its time is in the queue still.
		if c.states[i] == api.Ready {
			does[i] = api.Occur
		}
	}
	c.round(does)
	c.goOn()
	return api.OK
}
