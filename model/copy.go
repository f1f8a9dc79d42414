package model

import (
	"strings"

	"sentry/api"
)

// copyEach is a new row of the copies of all that a row has. It is made, not
// cut from the old one: that one's spare room is not its own.
func copyEach[T any](row []T, copyOne func(T) T) []T {
	if len(row) == 0 {
		return nil
	}
	out := make([]T, len(row))
	for i, x := range row {
		out[i] = copyOne(x)
	}
	return out
}

func copyItem(item api.Item) api.Item {
	return api.Item{
		ID:       strings.Clone(item.ID),
		Kind:     item.Kind,
		Parent:   strings.Clone(item.Parent),
		Required: item.Required,
		Ticks:    item.Ticks,
		Entry:    copyEach(item.Entry, copySentry),
		Exit:     copyEach(item.Exit, copySentry),
	}
}

func copySentry(s api.Sentry) api.Sentry {
	return api.Sentry{On: copyEach(s.On, copyOn), If: copyEach(s.If, copyCond)}
}

func copyOn(on api.On) api.On {
	return api.On{Item: strings.Clone(on.Item), Event: on.Event}
}

func copyCond(c api.Cond) api.Cond {
	return api.Cond{File: strings.Clone(c.File), Op: strings.Clone(c.Op), N: c.N}
}
