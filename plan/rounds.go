package plan

import (
	"sentry/api"
	"sentry/model"
)

// none stands for the event of an item that does nothing.
const none = 0

// nothing is a round in which nothing is done: by the items' places, what each does.
func (c *Case) nothing() []int {
	return make([]int, len(c.states))
}

// goOn goes through rounds, until one in which nothing is done.
func (c *Case) goOn() {
	for c.round(c.judged()) {
	}
}

// judged is what each item does by itself, as it all is.
func (c *Case) judged() []int {
	does := c.nothing()
	asked := []func(i int) int{c.exits, c.starts, c.creates, c.completes}
	for i := range does {
		for _, ask := range asked {
			if does[i] == none {
				does[i] = ask(i)
			}
		}
	}
	return does
}

// round has the items do this, and what is closed by it Exit. It tells whether
// anything was done.
func (c *Case) round(does []int) bool {
	c.shut(does)
	some := false
	for i, event := range does {
		if event != none {
			c.happen(i, event)
			some = true
		}
	}
	if some {
		c.rounds++
	}
	return some
}

// shut has each item that is closed Exit, whatever else it would do. Each one
// stands behind its Parent, which is therefore judged whole ahead of it.
func (c *Case) shut(does []int) {
	for i := 1; i < len(does); i++ {
		parent := does[model.Place(c.m, c.m.Items[i].Parent)]
		if parent != api.Exit && parent != api.Complete {
			continue
		}
		does[i] = none
		if isThere(c.states[i]) {
			does[i] = api.Exit
		}
	}
}

// happen has an item's event have happened.
func (c *Case) happen(i, event int) {
	item := c.m.Items[i]
	c.states[i] = stateBehind(event)
	c.happened[api.On{Item: item.ID, Event: event}] = struct{}{}
	if item.Kind == api.Timer && event == api.Create {
		c.timers.Push(c.now+item.Ticks, i)
	}
}

// stateBehind is the state of an item that just did this.
func stateBehind(event int) int {
	switch event {
	case api.Create:
		return api.Ready
	case api.Start:
		return api.Open
	case api.Exit:
		return api.Gone
	}
	return api.Done
}

// isThere tells whether an item of that state has come and not gone yet.
func isThere(state int) bool {
	return state == api.Ready || state == api.Open
}

// isPast tells whether an item of that state does nothing any more.
func isPast(state int) bool {
	return state == api.Done || state == api.Gone
}
