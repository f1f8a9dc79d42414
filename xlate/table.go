package xlate

import (
	"slices"

	"sentry/api"
	"sentry/model"
)

// eachStates is how many states of an item have a flag.
const eachStates = api.Gone - api.Ready + 1

// stateFlag is where the flag of a state stands that the item of a place has.
func stateFlag(place, state int) int {
	return eachStates*place + state - api.Ready
}

// table is a model with all the flags of its program, and the program's rules
// as far as they are made.
type table struct {
	parts          []part
	flags, lasting int
	stratum        int
	rules          []api.Rule
}

// part is an item with the flags of its own.
type part struct {
	item        api.Item
	depth       int // the plan's is 0
	parent      int // its place; that of the plan is none
	kids        []int
	entry, exit []wait

	ready, open, done, gone int

	// What it does in a round, and what it can't do in it. The document's
	// letters of these are x, s, n, c, z, h.
	exits, starts, comes, completes, closed, held int
}

// wait is a sentry with the flags of its own.
type wait struct {
	sentry api.Sentry
	marks  []int // one of each On
	holds  int
}

// isPlan tells whether it is the plan itself.
func (p part) isPlan() bool { return p.depth == 0 }

// isWork tells whether it is of a kind that is Open for a while: a Stage, a Task.
func (p part) isWork() bool { return model.Legal(p.item.Kind, api.Start) }

// waits is all sentries, those of Entry first.
func (p part) waits() []wait { return slices.Concat(p.entry, p.exit) }

// laid is the table of a model, without a rule still. It has a copy of the
// model, so that it may give away the rows that stand in it.
func laid(m api.Model) *table {
	m = model.Copy(m)
	t := &table{parts: make([]part, len(m.Items))}
	for i, item := range m.Items {
		t.parts[i] = part{item: item, kids: model.Kids(m, item.ID), entry: unlaid(item.Entry), exit: unlaid(item.Exit)}
		if i > 0 {
			// It stands behind its Parent, whose depth is therefore known.
			parent := model.Place(m, item.Parent)
			t.parts[i].parent, t.parts[i].depth = parent, t.parts[parent].depth+1
		}
	}
	t.layStates()
	t.layMarks()
	t.lasting = t.flags
	t.layDeeds()
	t.layWaits()
	return t
}

// unlaid is sentries without flags still.
func unlaid(sentries []api.Sentry) []wait {
	row := make([]wait, len(sentries))
	for i, s := range sentries {
		row[i] = wait{sentry: s, marks: make([]int, len(s.On))}
	}
	return row
}

// next is the first flag that nothing has yet.
func (t *table) next() int {
	t.flags++
	return t.flags - 1
}

func (t *table) layStates() {
	for i := range t.parts {
		p := &t.parts[i]
		p.ready, p.open, p.done, p.gone = stateFlag(i, api.Ready), stateFlag(i, api.Open), stateFlag(i, api.Done), stateFlag(i, api.Gone)
	}
	t.flags = eachStates * len(t.parts)
}

func (t *table) layMarks() {
	for _, p := range t.parts {
		for _, w := range p.waits() {
			for i := range w.marks {
				w.marks[i] = t.next()
			}
		}
	}
}

func (t *table) layDeeds() {
	for i := range t.parts {
		p := &t.parts[i]
		for _, flag := range []*int{&p.exits, &p.starts, &p.comes, &p.completes, &p.closed, &p.held} {
			*flag = t.next()
		}
	}
}

func (t *table) layWaits() {
	for _, p := range t.parts {
		for _, row := range [][]wait{p.entry, p.exit} {
			for i := range row {
				row[i].holds = t.next()
			}
		}
	}
}

// deepest is the depth of the deepest item.
func (t *table) deepest() int {
	depth := 0
	for _, p := range t.parts {
		depth = max(depth, p.depth)
	}
	return depth
}

// place is where the item of an ID stands.
func (t *table) place(id string) int {
	return slices.IndexFunc(t.parts, func(p part) bool { return p.item.ID == id })
}
