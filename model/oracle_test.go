package model_test

import (
	"math/rand"
	"regexp"
	"slices"
	"strconv"

	"sentry/api"
)

// The oracle asks of all rows and pairs at once what the chapter says of them,
// with the limits as the numbers that package api gives, and of the nesting
// what follows from it: all that stands in a Stage stands behind it, together.

var aName = regexp.MustCompile(`^[a-zA-Z_][a-zA-Z0-9_.-]{0,11}$`)

// legalOf are the events of each kind.
var legalOf = map[int][]int{
	api.Stage:     {api.Create, api.Start, api.Complete, api.Exit},
	api.Task:      {api.Create, api.Start, api.Complete, api.Exit},
	api.Milestone: {api.Create, api.Occur, api.Exit},
	api.Listener:  {api.Create, api.Occur, api.Exit},
	api.Timer:     {api.Create, api.Occur, api.Exit},
}

// mayBe is what Is must answer.
func mayBe(m api.Model) bool {
	var ids []string
	for _, item := range m.Items {
		ids = append(ids, item.ID)
	}
	ok := len(m.Files) <= 6 && len(m.Items) >= 1 && len(m.Items) <= 16 && distinctNames(m.Files) && distinctNames(ids)
	if !ok {
		return false
	}
	for i, item := range m.Items {
		_, known := legalOf[item.Kind]
		ok = ok && known && (item.Kind == api.Timer) == (item.Ticks != 0) && item.Ticks >= 0 && item.Ticks <= 100
		waits := item.Kind == api.Listener || item.Kind == api.Timer
		ok = ok && !((waits || i == 0) && (item.Required || len(item.Entry) > 0)) && !(i == 0 && len(item.Exit) > 0)
		ok = ok && len(item.Entry) <= 3 && len(item.Exit) <= 3
		for _, s := range slices.Concat(item.Entry, item.Exit) {
			ok = ok && holdable(m, ids, s)
		}
	}
	return ok && m.Items[0].Kind == api.Stage && m.Items[0].Parent == "" && together(m, ids)
}

func distinctNames(texts []string) bool {
	seen := map[string]int{}
	for _, s := range texts {
		seen[s]++
		if !aName.MatchString(s) || seen[s] > 1 {
			return false
		}
	}
	return true
}

// holdable tells whether a sentry may be one of m's.
func holdable(m api.Model, ids []string, s api.Sentry) bool {
	ok := len(s.On)+len(s.If) > 0 && len(s.On) <= 3 && len(s.If) <= 2
	seen := map[api.On]int{}
	for _, on := range s.On {
		seen[on]++
		at := slices.Index(ids, on.Item)
		ok = ok && at >= 0 && slices.Contains(legalOf[m.Items[at].Kind], on.Event) && seen[on] == 1
	}
	for _, c := range s.If {
		ok = ok && slices.Contains(m.Files, c.File) && slices.Contains([]string{"<", "<=", "=", "!=", ">=", ">"}, c.Op) && c.N >= -1000000 && c.N <= 1000000
	}
	return ok
}

// together tells whether the items behind the first one have Stages as their
// Parents, stand in at most five, and all that stands in one follows it
// without a gap.
func together(m api.Model, ids []string) bool {
	within := make([][]int, len(ids)) // what stands in each, at whatever depth
	for i := 1; i < len(ids); i++ {
		depth := 0
		for at := i; at != 0; depth++ {
			parent := slices.Index(ids, m.Items[at].Parent)
			// A Parent ahead of its item: so the way up ends at the first one.
			if parent < 0 || parent >= at || m.Items[parent].Kind != api.Stage {
				return false
			}
			within[parent] = append(within[parent], i)
			at = parent
		}
		if depth > 5 {
			return false
		}
	}
	for stage, row := range within {
		for k, at := range row {
			if at != stage+1+k {
				return false
			}
		}
	}
	return true
}

// oneOf is one of some things.
func oneOf[T any](r *rand.Rand, from ...T) T {
	return from[r.Intn(len(from))]
}

// grown is a model that may be, of any shape.
func grown(r *rand.Rand) api.Model {
	var m api.Model
	for i := range r.Intn(api.MaxFiles + 1) {
		m.Files = append(m.Files, oneOf(r, "f", "_", "long.file-")+strconv.Itoa(i))
	}
	m.Items = []api.Item{{ID: "plan", Kind: api.Stage}}
	open := []string{"plan"}
	for i := range r.Intn(api.MaxItems) {
		open = open[:1+r.Intn(min(len(open), api.MaxStages))]
		item := api.Item{ID: oneOf(r, "x", "Y-", "f") + strconv.Itoa(i), Kind: oneOf(r, api.Stage, api.Stage, api.Task, api.Milestone, api.Listener, api.Timer), Parent: open[len(open)-1]}
		if item.Kind == api.Timer {
			item.Ticks = oneOf(r, 1, 2, 50, api.MaxTicks)
		}
		item.Required = oneOf(r, true, false) && item.Kind <= api.Milestone
		m.Items = append(m.Items, item)
		if item.Kind == api.Stage {
			open = append(open, item.ID)
		}
	}
	for i := range m.Items[1:] {
		if m.Items[i+1].Kind <= api.Milestone {
			m.Items[i+1].Entry = grownSentries(r, m)
		}
		m.Items[i+1].Exit = grownSentries(r, m)
	}
	return m
}

func grownSentries(r *rand.Rand, m api.Model) []api.Sentry {
	var row []api.Sentry
	for range r.Intn(api.MaxSentries + 1) {
		var s api.Sentry
		for range r.Intn(api.MaxOn + 1) {
			item := oneOf(r, m.Items...)
			if on := (api.On{Item: item.ID, Event: oneOf(r, legalOf[item.Kind]...)}); !slices.Contains(s.On, on) {
				s.On = append(s.On, on)
			}
		}
		if len(m.Files) > 0 {
			for range r.Intn(api.MaxIf + 1) {
				s.If = append(s.If, api.Cond{File: oneOf(r, m.Files...), Op: oneOf(r, "<", "<=", "=", "!=", ">=", ">"), N: oneOf(r, 0, 7, -api.MaxN, api.MaxN)})
			}
		}
		if len(s.On)+len(s.If) > 0 {
			row = append(row, s)
		}
	}
	return row
}

// spoil turns one thing of a model, often into one that may not be.
func spoil(r *rand.Rand, m *api.Model) {
	i := r.Intn(len(m.Items))
	item := &m.Items[i]
	switch r.Intn(9) {
	case 0:
		m.Files = append(m.Files, oneOf(r, "z", "f0", "", "1", "a:b"))
	case 1:
		item.ID = oneOf(r, "z", "x1", "plan", "", "-", "a b")
	case 2:
		item.Kind = oneOf(r, 0, 1, 2, 3, 4, 5, 6)
	case 3:
		item.Parent = oneOf(r, "", "zz", item.ID, m.Items[r.Intn(len(m.Items))].ID)
	case 4:
		item.Required = !item.Required
	case 5:
		item.Ticks = oneOf(r, -1, 0, 1, api.MaxTicks, api.MaxTicks+1)
	case 6:
		j := r.Intn(len(m.Items))
		m.Items[i], m.Items[j] = m.Items[j], m.Items[i]
	case 7:
		m.Items = slices.Delete(m.Items, i, i+1)
	case 8:
		row := oneOf(r, &item.Entry, &item.Exit)
		*row = append(*row, api.Sentry{})
		spoilSentry(r, &(*row)[r.Intn(len(*row))])
	}
	if len(m.Items) == 0 {
		m.Items = []api.Item{{ID: "left", Kind: api.Stage}}
	}
}

func spoilSentry(r *rand.Rand, s *api.Sentry) {
	if oneOf(r, true, false) {
		s.On = append(s.On, api.On{Item: oneOf(r, "plan", "x1", "x2", "zz", ""), Event: r.Intn(7)})
	} else {
		s.If = append(s.If, api.Cond{File: oneOf(r, "f0", "f1", "_0", "zz"), Op: oneOf(r, "<", "=", "!=", "==", "", "<>"), N: oneOf(r, 0, api.MaxN, api.MaxN+1, -api.MaxN, -api.MaxN-1)})
	}
}
