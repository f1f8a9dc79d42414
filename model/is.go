package model

import (
	"slices"

	"sentry/api"
	"sentry/name"
)

// filesMayBe tells whether these may be a model's Files.
func filesMayBe(files []string) bool {
	return len(files) <= api.MaxFiles && areNames(files)
}

// idsMayBe tells whether there are as many items as there may be, and their
// IDs are such as may be. What is asked behind it relies on both.
func idsMayBe(items []api.Item) bool {
	if len(items) < 1 || len(items) > api.MaxItems {
		return false
	}
	var ids []string
	for _, item := range items {
		ids = append(ids, item.ID)
	}
	return areNames(ids)
}

// areNames tells whether all are names, none twice.
func areNames(texts []string) bool {
	for i, s := range texts {
		if !name.Is(s) || slices.Contains(texts[:i], s) {
			return false
		}
	}
	return true
}

// isPlan tells whether an item may be the first one.
func isPlan(item api.Item) bool {
	return item.Kind == api.Stage && item.Parent == "" && !item.Required && len(item.Entry) == 0 && len(item.Exit) == 0
}

// isNested tells whether each item but the first one has a Parent that may be
// its own, and stands in no more Stages than it may.
func isNested(items []api.Item) bool {
	// The Stages in which an item may stand here, each in the one ahead of it.
	open := []string{items[0].ID}
	for _, item := range items[1:] {
		parent := slices.Index(open, item.Parent)
		if parent < 0 || parent+1 > api.MaxStages {
			return false
		}
		// What stood further within has ended, and is no one's Parent any more.
		open = open[:parent+1]
		if item.Kind == api.Stage {
			open = append(open, item.ID)
		}
	}
	return true
}

// itemsMayBe tells whether each item's own fields may be.
func itemsMayBe(m api.Model) bool {
	for _, item := range m.Items {
		if !isKind(item.Kind) || !ticksMayBe(item) || !waitMayBe(item) || !sentriesMayBe(m, item.Entry) || !sentriesMayBe(m, item.Exit) {
			return false
		}
	}
	return true
}

// isKind tells whether there is such a kind.
func isKind(kind int) bool {
	return api.Stage <= kind && kind <= api.Timer
}

// ticksMayBe tells whether an item has Ticks just if it is a Timer.
func ticksMayBe(item api.Item) bool {
	if item.Kind == api.Timer {
		return 1 <= item.Ticks && item.Ticks <= api.MaxTicks
	}
	return item.Ticks == 0
}

// waitMayBe tells whether an item is neither Required nor has an Entry, if it
// is one that waits for what is without.
func waitMayBe(item api.Item) bool {
	if item.Kind == api.Listener || item.Kind == api.Timer {
		return !item.Required && len(item.Entry) == 0
	}
	return true
}

// sentriesMayBe tells whether these may be an item's Entry or its Exit.
func sentriesMayBe(m api.Model, sentries []api.Sentry) bool {
	if len(sentries) > api.MaxSentries {
		return false
	}
	for _, s := range sentries {
		if len(s.On) == 0 && len(s.If) == 0 || !onMayBe(m, s.On) || !ifMayBe(m, s.If) {
			return false
		}
	}
	return true
}

// onMayBe tells whether these may be a sentry's events.
func onMayBe(m api.Model, row []api.On) bool {
	if len(row) > api.MaxOn {
		return false
	}
	for i, on := range row {
		place := Place(m, on.Item)
		if place < 0 || !Legal(m.Items[place].Kind, on.Event) || slices.Contains(row[:i], on) {
			return false
		}
	}
	return true
}

// ifMayBe tells whether these may be a sentry's conditions.
func ifMayBe(m api.Model, row []api.Cond) bool {
	if len(row) > api.MaxIf {
		return false
	}
	for _, c := range row {
		if !slices.Contains(m.Files, c.File) || !isOp(c.Op) || c.N < -api.MaxN || c.N > api.MaxN {
			return false
		}
	}
	return true
}

// isOp tells whether there is such an Op.
func isOp(op string) bool {
	switch op {
	case "<", "<=", "=", "!=", ">=", ">":
		return true
	}
	return false
}
