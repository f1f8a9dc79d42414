package rules

import (
	"slices"

	"sentry/api"
)

// sameRule tells whether two are one.
func sameRule(a, b api.Rule) bool {
	return a.Stratum == b.Stratum && slices.Equal(a.If, b.If) && slices.Equal(a.Conds, b.Conds) && slices.Equal(a.Then, b.Then)
}

// sameUser tells whether two are one.
func sameUser(a, b api.User) bool {
	return a.Item == b.Item && a.Event == b.Event && slices.Equal(a.While, b.While) && a.Then == b.Then
}

// sameItem tells whether two are one.
func sameItem(a, b api.Item) bool {
	return a.ID == b.ID && a.Kind == b.Kind && a.Parent == b.Parent && a.Required == b.Required && a.Ticks == b.Ticks &&
		slices.EqualFunc(a.Entry, b.Entry, sameSentry) && slices.EqualFunc(a.Exit, b.Exit, sameSentry)
}

// sameSentry tells whether two are one.
func sameSentry(a, b api.Sentry) bool {
	return slices.Equal(a.On, b.On) && slices.Equal(a.If, b.If)
}
