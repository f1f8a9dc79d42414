package xlate

import (
	"slices"

	"sentry/api"
)

// firstClosing is the stratum in which it is told what the kids of the plan are
// closed by; those in which it is told of what is deeper stand behind it.
const firstClosing = 6

// ruled is all rules, of which each stratum has a maker or more. Each maker
// goes through all items ahead of the next one.
func (t *table) ruled() []api.Rule {
	makers := [][]func(p part){{t.waiting}, {t.exiting}, {t.starting}, {t.holding}, {t.completing}}
	for range t.deepest() {
		makers = append(makers, []func(p part){t.closing})
	}
	makers = append(makers, []func(p part){t.turning, t.marking})
	for i, row := range makers {
		t.stratum = i + 1
		for _, maker := range row {
			for _, p := range t.parts {
				maker(p)
			}
		}
	}
	return t.rules
}

// rule adds one to the stratum that is being made.
func (t *table) rule(when []api.Lit, then ...api.Set) {
	t.rules = append(t.rules, api.Rule{Stratum: t.stratum, If: when, Then: then})
}

func is(flag int) api.Lit   { return api.Lit{Flag: flag} }
func not(flag int) api.Lit  { return api.Lit{Flag: flag, Not: true} }
func up(flag int) api.Set   { return api.Set{Flag: flag, Up: true} }
func down(flag int) api.Set { return api.Set{Flag: flag} }

func when(row ...api.Lit) []api.Lit { return row }

// whenAbsent is that a Parent is open, and an item of it is in Wait.
func whenAbsent(parent, p part) []api.Lit {
	return when(is(parent.open), not(p.ready), not(p.open), not(p.done), not(p.gone))
}

// waiting has the flags of the sentries that hold go up, and holds a Stage up
// by how its Kids are.
func (t *table) waiting(p part) {
	for _, w := range p.waits() {
		row := make([]api.Lit, len(w.marks))
		for i, mark := range w.marks {
			row[i] = is(mark)
		}
		t.rules = append(t.rules, api.Rule{Stratum: t.stratum, If: row, Conds: w.sentry.If, Then: []api.Set{up(w.holds)}})
	}
	for _, i := range p.kids {
		k := t.parts[i]
		t.rule(when(is(p.open), is(k.open)), up(p.held))
		t.rule(whenAbsent(p, k), up(p.held))
		if k.item.Required {
			t.rule(when(is(p.open), not(k.done), not(k.gone)), up(p.held))
		}
	}
}

// exiting has what is there exit by its sentries.
func (t *table) exiting(p part) {
	for _, w := range p.exit {
		t.rule(when(is(w.holds), is(p.ready)), up(p.exits))
		t.rule(when(is(w.holds), is(p.open)), up(p.exits))
	}
}

// starting has what is ready start or occur, and what is in Wait come.
func (t *table) starting(p part) {
	if p.isPlan() {
		return
	}
	if startsByItself(p.item.Kind) {
		if len(p.entry) == 0 {
			t.rule(when(is(p.ready), not(p.exits)), up(p.starts))
		}
		for _, w := range p.entry {
			t.rule(when(is(w.holds), is(p.ready), not(p.exits)), up(p.starts))
		}
	}
	t.rule(whenAbsent(t.parts[p.parent], p), up(p.comes))
}

// startsByItself tells whether what is of a kind waits for no user and no tick.
func startsByItself(kind int) bool {
	return kind == api.Stage || kind == api.Task || kind == api.Milestone
}

// holding holds a Stage up by what its Kids start.
func (t *table) holding(p part) {
	for _, k := range p.kids {
		t.rule(when(is(p.open), is(t.parts[k].starts)), up(p.held))
	}
}

// completing has a Stage complete that nothing holds up.
func (t *table) completing(p part) {
	if p.item.Kind == api.Stage {
		t.rule(when(is(p.open), not(p.exits), not(p.held)), up(p.completes))
	}
}

// closing has what is there be closed, if it is of the depth of which the
// stratum tells: what it stands in is judged in the one ahead.
func (t *table) closing(p part) {
	if p.depth != t.stratum-firstClosing+1 {
		return
	}
	parent := t.parts[p.parent]
	for _, flag := range []int{p.ready, p.open} {
		t.rule(when(is(flag), is(parent.exits)), up(p.closed))
		t.rule(when(is(flag), is(parent.completes)), up(p.closed))
		if !parent.isPlan() {
			t.rule(when(is(flag), is(parent.closed)), up(p.closed))
		}
	}
}

// turning has an item's state be the one behind what it does.
func (t *table) turning(p part) {
	// What is closed is told ahead of what exits, though as an event it stands
	// behind it.
	for _, row := range slices.Backward(t.ways(p, api.Exit)) {
		t.rule(row, up(p.gone), down(p.ready), down(p.open))
	}
	if p.isWork() {
		t.rulesOf(p, api.Start, up(p.open), down(p.ready))
		t.rulesOf(p, api.Complete, up(p.done), down(p.open))
	} else {
		t.rulesOf(p, api.Occur, up(p.done), down(p.ready))
	}
	t.rulesOf(p, api.Create, up(p.ready))
}

// marking has the marks go up of what an item's sentries wait for.
func (t *table) marking(p part) {
	for _, w := range p.waits() {
		for i, on := range w.sentry.On {
			t.rulesOf(t.parts[t.place(on.Item)], on.Event, up(w.marks[i]))
		}
	}
}

// rulesOf adds one for each way in which an event of an item happens.
func (t *table) rulesOf(p part, event int, then ...api.Set) {
	for _, row := range t.ways(p, event) {
		t.rule(row, slices.Concat(then)...)
	}
}

// ways is when an event of an item happens, one or the other. To the plan less
// happens than to all else: it is there from the beginning, and in nothing.
func (t *table) ways(p part, event int) [][]api.Lit {
	switch {
	case event == api.Exit && p.isPlan():
		return [][]api.Lit{when(is(p.exits))}
	case event == api.Exit:
		return [][]api.Lit{when(is(p.exits)), when(is(p.closed))}
	case event == api.Complete && p.isPlan():
		return [][]api.Lit{when(is(p.completes))}
	case event == api.Complete:
		return [][]api.Lit{when(is(p.completes), not(p.closed))}
	case p.isPlan():
		return nil
	case event == api.Create:
		return [][]api.Lit{t.whenComes(p)}
	}
	return [][]api.Lit{when(is(p.starts), not(p.closed))}
}

// whenComes is when an item that is not the plan comes: that is, what it
// stands in neither exits nor is closed in that same round.
func (t *table) whenComes(p part) []api.Lit {
	parent := t.parts[p.parent]
	row := when(is(p.comes), not(parent.exits))
	if !parent.isPlan() {
		row = append(row, not(parent.closed))
	}
	return row
}
