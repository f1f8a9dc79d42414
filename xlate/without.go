package xlate

import (
	"strings"

	"sentry/api"
)

// counters is what Timers count.
func (t *table) counters() []api.Counter {
	var row []api.Counter
	for _, p := range t.parts {
		if p.item.Kind == api.Timer {
			row = append(row, api.Counter{While: p.ready, Limit: p.item.Ticks, Then: p.starts})
		}
	}
	return row
}

// users is what a user may have items do.
func (t *table) users() []api.User {
	var row []api.User
	for _, p := range t.parts[1:] {
		switch p.item.Kind {
		case api.Task:
			row = append(row, p.user(api.Complete, p.open, p.completes))
		case api.Listener:
			row = append(row, p.user(api.Occur, p.ready, p.starts))
		}
		row = append(row, p.user(api.Exit, p.ready, p.exits), p.user(api.Exit, p.open, p.exits))
	}
	return row
}

func (p part) user(event, while, then int) api.User {
	return api.User{Item: strings.Clone(p.item.ID), Event: event, While: when(is(while)), Then: then}
}
