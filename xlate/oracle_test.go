package xlate_test

import (
	"math/rand"
	"slices"
	"strconv"
	"strings"

	"sentry/api"
	"sentry/model"
)

// The oracle knows flags by names: of the item a its states are a.ready, a.open,
// a.done and a.gone, the others a.x, a.s, a.n, a.c, a.z, a.h; its sentries are
// a<0, a<1 (of Entry), a>0, a>1 (of Exit), their marks a<0.0, a<0.1. A rule is
// a text of such names. It goes through the table row by row, each row for
// itself, and puts the rules in their order at the end.

// waited is a sentry with its name.
type waited struct {
	name string
	api.Sentry
}

func sentriesOf(x api.Item) []waited {
	var out []waited
	for i, s := range x.Entry {
		out = append(out, waited{x.ID + "<" + strconv.Itoa(i), s})
	}
	for i, s := range x.Exit {
		out = append(out, waited{x.ID + ">" + strconv.Itoa(i), s})
	}
	return out
}

func (w waited) marks() []string {
	var out []string
	for i := range w.On {
		out = append(out, w.name+"."+strconv.Itoa(i))
	}
	return out
}

// lasting are the names of the flags that last, passing those of the others.
func lasting(m api.Model) []string {
	var out []string
	for _, x := range m.Items {
		out = append(out, x.ID+".ready", x.ID+".open", x.ID+".done", x.ID+".gone")
	}
	for _, x := range m.Items {
		for _, w := range sentriesOf(x) {
			out = append(out, w.marks()...)
		}
	}
	return out
}

func passing(m api.Model) []string {
	var out []string
	for _, x := range m.Items {
		for _, letter := range strings.Split("xsnczh", "") {
			out = append(out, x.ID+"."+letter)
		}
	}
	for _, x := range m.Items {
		for _, w := range sentriesOf(x) {
			out = append(out, w.name)
		}
	}
	return out
}

// sheet is a program that is being told.
type sheet struct {
	m     api.Model
	flags map[string]int
	rules []keyed
}

// keyed is a rule with what it is put in order by: stratum, item or mark, the
// item's place, the row of the table.
type keyed struct {
	key  [4]int
	rule api.Rule
}

func (s *sheet) flag(name string) int {
	flag, ok := s.flags[name]
	if !ok {
		panic("no flag " + name)
	}
	return flag
}

// say tells a rule: "a.open -b.x" are ifs, "+a.gone -a.open" are thens.
func (s *sheet) say(key [4]int, ifs string, conds []api.Cond, thens string) {
	rule := api.Rule{Stratum: key[0], Conds: conds}
	for _, name := range strings.Fields(ifs) {
		plain, not := strings.CutPrefix(name, "-")
		rule.If = append(rule.If, api.Lit{Flag: s.flag(plain), Not: not})
	}
	for _, name := range strings.Fields(thens) {
		rule.Then = append(rule.Then, api.Set{Flag: s.flag(name[1:]), Up: name[0] == '+'})
	}
	s.rules = append(s.rules, keyed{key, rule})
}

func (s *sheet) kids(x api.Item) []api.Item {
	var out []api.Item
	for _, k := range s.m.Items {
		if k.Parent == x.ID {
			out = append(out, k)
		}
	}
	return out
}

func depth(m api.Model, id string) int {
	for _, x := range m.Items {
		if x.ID == id && x.Parent != "" {
			return 1 + depth(m, x.Parent)
		}
	}
	return 0
}

func deepest(m api.Model) int {
	d := 0
	for _, x := range m.Items {
		d = max(d, depth(m, x.ID))
	}
	return d
}

// put puts an item's ID for $ and its Parent's for ^ in a text.
func put(x api.Item, s string) string {
	return strings.ReplaceAll(strings.ReplaceAll(s, "$", x.ID), "^", x.Parent)
}

// early tells the strata ahead of that of what is closed.
func (s *sheet) early() {
	for i, x := range s.m.Items {
		isPlan := i == 0
		for _, w := range sentriesOf(x) {
			s.say([4]int{1, 0, i, 1}, strings.Join(w.marks(), " "), w.If, "+"+w.name)
		}
		for _, k := range s.kids(x) {
			s.say([4]int{1, 0, i, 2}, x.ID+".open "+k.ID+".open", nil, put(x, "+$.h"))
			s.say([4]int{1, 0, i, 2}, put(k, "^.open -$.ready -$.open -$.done -$.gone"), nil, put(x, "+$.h"))
			if k.Required {
				s.say([4]int{1, 0, i, 2}, put(k, "^.open -$.done -$.gone"), nil, put(x, "+$.h"))
			}
			s.say([4]int{4, 0, i, 1}, put(k, "^.open $.s"), nil, put(x, "+$.h"))
		}
		for n := range x.Exit {
			for _, f := range []string{".ready", ".open"} {
				s.say([4]int{2, 0, i, 1}, x.ID+">"+strconv.Itoa(n)+" "+x.ID+f, nil, put(x, "+$.x"))
			}
		}
		if !isPlan && x.Kind <= api.Milestone && len(x.Entry) == 0 {
			s.say([4]int{3, 0, i, 1}, put(x, "$.ready -$.x"), nil, put(x, "+$.s"))
		}
		for n := range x.Entry {
			s.say([4]int{3, 0, i, 1}, x.ID+"<"+strconv.Itoa(n)+put(x, " $.ready -$.x"), nil, put(x, "+$.s"))
		}
		if !isPlan {
			s.say([4]int{3, 0, i, 2}, put(x, "^.open -$.ready -$.open -$.done -$.gone"), nil, put(x, "+$.n"))
		}
		if x.Kind == api.Stage {
			s.say([4]int{5, 0, i, 1}, put(x, "$.open -$.x -$.h"), nil, put(x, "+$.c"))
		}
	}
}

// late tells the strata of what is closed, and the last one.
func (s *sheet) late() {
	last := 6 + deepest(s.m)
	for i, x := range s.m.Items {
		d := depth(s.m, x.ID)
		if d > 0 {
			for _, f := range []string{"$.ready ", "$.open "} {
				s.say([4]int{5 + d, 0, i, 1}, put(x, f+"^.x"), nil, put(x, "+$.z"))
				s.say([4]int{5 + d, 0, i, 1}, put(x, f+"^.c"), nil, put(x, "+$.z"))
				if d > 1 {
					s.say([4]int{5 + d, 0, i, 1}, put(x, f+"^.z"), nil, put(x, "+$.z"))
				}
			}
		}
		work := x.Kind == api.Stage || x.Kind == api.Task
		type row struct {
			so           bool
			ifs, thens   string
			ofThePlanIfs string
		}
		for n, r := range []row{
			{d > 0, "$.z", "+$.gone -$.ready -$.open", ""},
			{true, "$.x", "+$.gone -$.ready -$.open", "$.x"},
			{d > 0 && work, "$.s -$.z", "+$.open -$.ready", ""},
			{d > 0 && !work, "$.s -$.z", "+$.done -$.ready", ""},
			{work, "$.c -$.z", "+$.done -$.open", "$.c"},
			{d == 1, "$.n -^.x", "+$.ready", ""},
			{d > 1, "$.n -^.x -^.z", "+$.ready", ""},
		} {
			if d == 0 {
				r.ifs = r.ofThePlanIfs
			}
			if r.so {
				s.say([4]int{last, 0, i, n}, put(x, r.ifs), nil, put(x, r.thens))
			}
		}
		for _, w := range sentriesOf(x) {
			for n, on := range w.On {
				for _, ifs := range s.happens(on) {
					s.say([4]int{last, 1, i, 0}, ifs, nil, "+"+w.marks()[n])
				}
			}
		}
	}
}

// happens are the ifs of an event.
func (s *sheet) happens(on api.On) []string {
	k := s.m.Items[slices.IndexFunc(s.m.Items, func(x api.Item) bool { return x.ID == on.Item })]
	of := map[[2]int][]string{
		{api.Create, 1}: {"$.n -^.x"}, {api.Create, 2}: {"$.n -^.x -^.z"},
		{api.Start, 1}: {"$.s -$.z"}, {api.Start, 2}: {"$.s -$.z"},
		{api.Occur, 1}: {"$.s -$.z"}, {api.Occur, 2}: {"$.s -$.z"},
		{api.Complete, 0}: {"$.c"}, {api.Complete, 1}: {"$.c -$.z"}, {api.Complete, 2}: {"$.c -$.z"},
		{api.Exit, 0}: {"$.x"}, {api.Exit, 1}: {"$.x", "$.z"}, {api.Exit, 2}: {"$.x", "$.z"},
	}[[2]int{on.Event, min(depth(s.m, k.ID), 2)}]
	var out []string
	for _, ifs := range of {
		out = append(out, put(k, ifs))
	}
	return out
}

// told is what To must answer of a model that may be.
func told(m api.Model) api.Program {
	s := &sheet{m: m, flags: map[string]int{}}
	long, short := lasting(m), passing(m)
	for i, name := range slices.Concat(long, short) {
		s.flags[name] = i
	}
	s.early()
	s.late()
	slices.SortStableFunc(s.rules, func(a, b keyed) int { return slices.Compare(a.key[:], b.key[:]) })
	plan := m.Items[0]
	p := api.Program{
		Flags: len(long) + len(short), Lasting: len(long), First: []int{s.flag(put(plan, "$.open"))},
		Over: []int{s.flag(put(plan, "$.done")), s.flag(put(plan, "$.gone"))}, From: 6, Files: m.Files, Notes: m.Items,
	}
	for _, r := range s.rules {
		p.Rules = append(p.Rules, r.rule)
	}
	for _, x := range m.Items[1:] {
		user := func(event int, while, then string) {
			p.Users = append(p.Users, api.User{Item: x.ID, Event: event, While: []api.Lit{{Flag: s.flag(x.ID + while)}}, Then: s.flag(x.ID + then)})
		}
		switch x.Kind {
		case api.Timer:
			p.Counters = append(p.Counters, api.Counter{While: s.flag(put(x, "$.ready")), Limit: x.Ticks, Then: s.flag(put(x, "$.s"))})
		case api.Task:
			user(api.Complete, ".open", ".c")
		case api.Listener:
			user(api.Occur, ".ready", ".s")
		}
		user(api.Exit, ".ready", ".x")
		user(api.Exit, ".open", ".x")
	}
	return p
}

var theOps = []string{"<", "<=", "=", "!=", ">=", ">"}

// pick is one of some things.
func pick[T any](r *rand.Rand, from ...T) T {
	return from[r.Intn(len(from))]
}

// grown is a model that may be, of any shape, with short Timers.
func grown(r *rand.Rand) api.Model {
	m := api.Model{Files: []string{"f", "g", "h", "x0", "F", "_"}[:r.Intn(api.MaxFiles+1)]}
	m.Items = []api.Item{{ID: pick(r, "plan", "p", "f"), Kind: api.Stage}}
	open := []string{m.Items[0].ID}
	for i := range r.Intn(api.MaxItems) {
		open = open[:1+r.Intn(min(len(open), api.MaxStages))]
		item := api.Item{ID: "x" + strconv.Itoa(i), Kind: pick(r, api.Stage, api.Stage, api.Task, api.Milestone, api.Listener, api.Timer), Parent: open[len(open)-1]}
		if item.Kind == api.Timer {
			item.Ticks = 1 + r.Intn(3)
		}
		item.Required = pick(r, true, false, false) && item.Kind <= api.Milestone
		m.Items = append(m.Items, item)
		if item.Kind == api.Stage {
			open = append(open, item.ID)
		}
	}
	many := pick(r, 1, 2, 4, 6)
	for i := range m.Items[1:] {
		x := &m.Items[i+1]
		if x.Kind <= api.Milestone && r.Intn(8) < many {
			x.Entry = grownSentries(r, m)
		}
		if r.Intn(8) < many {
			x.Exit = grownSentries(r, m)
		}
	}
	return m
}

func grownSentries(r *rand.Rand, m api.Model) []api.Sentry {
	var row []api.Sentry
	for range 1 + r.Intn(api.MaxSentries) {
		var s api.Sentry
		for range pick(r, 0, 1, 1, 2, 3) {
			item := pick(r, m.Items...)
			on := api.On{Item: item.ID, Event: pick(r, api.Create, api.Start, api.Complete, api.Occur, api.Exit)}
			if model.Legal(item.Kind, on.Event) && !slices.Contains(s.On, on) {
				s.On = append(s.On, on)
			}
		}
		if len(m.Files) > 0 {
			for range pick(r, 0, 0, 1, 2) {
				s.If = append(s.If, api.Cond{File: pick(r, m.Files...), Op: pick(r, theOps...), N: pick(r, 0, 1, -1, 2, -2)})
			}
		}
		if len(s.On)+len(s.If) > 0 {
			row = append(row, s)
		}
	}
	return row
}

// lively is a grown model, which mostly isn't over soon.
func lively(r *rand.Rand) api.Model {
	m := grown(r)
	if r.Intn(3) > 0 && len(m.Items) < api.MaxItems {
		m.Items = append(m.Items, api.Item{ID: "keep", Kind: api.Task, Parent: m.Items[0].ID, Required: true})
	}
	return m
}

// grownAct is an act that mostly may be.
func grownAct(r *rand.Rand, m api.Model) api.Act {
	switch r.Intn(10) {
	case 0, 1, 2, 3, 4:
		return api.Act{Kind: api.ActUser, Item: pick(r, m.Items...).ID, Event: pick(r, api.Complete, api.Occur, api.Complete, api.Occur, api.Exit, api.Start, api.Create)}
	case 5, 6:
		if len(m.Files) > 0 {
			return api.Act{Kind: api.ActWrite, File: pick(r, m.Files...), N: pick(r, 0, 1, -1, 2, -2, 3, -3)}
		}
	case 7:
		return api.Act{Kind: r.Intn(6) - 1, Item: pick(r, "", "x1", "zz", "f"), Event: r.Intn(8) - 1, File: pick(r, "f", "", "x1", "zz"), N: pick(r, 0, api.MaxN, -api.MaxN, api.MaxN+1, -api.MaxN-1)}
	}
	return api.Act{Kind: api.ActTick}
}
