package plan_test

import (
	"math/rand"
	"slices"
	"strconv"

	"sentry/api"
	"sentry/model"
)

// told is a case as the words tell it: all by names, what happened as a tale,
// what is closed from without to within, Timers that count for themselves.
type told struct {
	m      api.Model
	state  map[string]int
	file   map[string]int
	tale   []api.On
	ticks  map[string]int // how many ticks a Timer has been Ready
	now    int
	rounds int
	seen   map[string]int // how often what a round must tell apart came to be
}

func newTold(m api.Model) *told {
	c := &told{m: m, state: map[string]int{m.Items[0].ID: api.Open}, file: map[string]int{}, ticks: map[string]int{}, seen: map[string]int{}}
	c.goOn()
	return c
}

func (c *told) item(id string) (api.Item, bool) {
	for _, x := range c.m.Items {
		if x.ID == id {
			return x, true
		}
	}
	return api.Item{}, false
}

func (c *told) is(id string, states ...int) bool {
	return slices.Contains(states, c.state[id])
}

func (c *told) kids(id string) []api.Item {
	var out []api.Item
	for _, x := range c.m.Items[1:] {
		if x.Parent == id {
			out = append(out, x)
		}
	}
	return out
}

func (c *told) holds(s api.Sentry) bool {
	for _, on := range s.On {
		if !slices.Contains(c.tale, on) {
			return false
		}
	}
	for _, x := range s.If {
		n := c.file[x.File]
		so := map[string]bool{"<": n < x.N, "<=": n <= x.N, "=": n == x.N, "!=": n != x.N, ">=": n >= x.N, ">": n > x.N}
		if !so[x.Op] {
			return false
		}
	}
	return true
}

func (c *told) any(row []api.Sentry) bool {
	return slices.ContainsFunc(row, c.holds)
}

// deeds is what items do in a round, by their IDs.
type deeds map[string]int

func (c *told) judge() deeds {
	does := deeds{}
	for _, x := range c.m.Items {
		if c.is(x.ID, api.Ready, api.Open) && c.any(x.Exit) {
			does[x.ID] = api.Exit
		}
	}
	for _, x := range c.m.Items[1:] {
		if c.is(x.ID, api.Wait) && c.is(x.Parent, api.Open) {
			does[x.ID] = api.Create
		}
		if c.is(x.ID, api.Ready) && (len(x.Entry) == 0 || c.any(x.Entry)) {
			start := map[int]int{api.Stage: api.Start, api.Task: api.Start, api.Milestone: api.Occur}[x.Kind]
			if start != 0 && does[x.ID] == api.Exit {
				c.seen["exits ahead of its start"]++
			} else if start != 0 {
				does[x.ID] = start
			}
		}
	}
	for _, x := range c.m.Items {
		if x.Kind == api.Stage && c.is(x.ID, api.Open) && does[x.ID] == 0 && c.mayComplete(x, does) {
			does[x.ID] = api.Complete
		}
	}
	return does
}

func (c *told) mayComplete(x api.Item, does deeds) bool {
	starting := false
	for _, k := range c.kids(x.ID) {
		if c.is(k.ID, api.Wait, api.Open) {
			return false
		}
		if does[k.ID] == api.Start || does[k.ID] == api.Occur {
			starting = true
			continue
		}
		if k.Required && c.is(k.ID, api.Ready) {
			c.seen["waits for what is Required"]++
			return false
		}
	}
	if starting {
		c.seen["waits for what starts just now"]++
	}
	return !starting
}

// shut closes all that stands in a stage.
func (c *told) shut(id string, does deeds) {
	for _, k := range c.kids(id) {
		if !c.is(k.ID, api.Ready, api.Open) {
			if does[k.ID] != 0 {
				c.seen["closed ahead of its create"]++
				delete(does, k.ID)
			}
			continue
		}
		c.seen["closed instead of "+strconv.Itoa(does[k.ID])]++
		does[k.ID] = api.Exit
		c.shut(k.ID, does)
	}
}

// round has all deeds done, and all that they close, at once.
func (c *told) round(does deeds) bool {
	for _, x := range c.m.Items {
		if does[x.ID] == api.Exit || does[x.ID] == api.Complete {
			c.shut(x.ID, does)
		}
	}
	for id, event := range does {
		c.state[id] = map[int]int{api.Create: api.Ready, api.Start: api.Open, api.Complete: api.Done, api.Occur: api.Done, api.Exit: api.Gone}[event]
		c.tale = append(c.tale, api.On{Item: id, Event: event})
		c.seen["does "+strconv.Itoa(event)]++
	}
	if len(does) > 0 {
		c.rounds++
	}
	return len(does) > 0
}

func (c *told) goOn() {
	for c.round(c.judge()) {
	}
}

func (c *told) do(a api.Act) api.Errno {
	e := c.try(a)
	c.seen["act "+strconv.Itoa(a.Kind)+": "+e.Error()]++
	return e
}

func (c *told) try(a api.Act) api.Errno {
	if a.Kind != api.ActUser && a.Kind != api.ActWrite && a.Kind != api.ActTick {
		return api.ErrArg
	}
	if c.is(c.m.Items[0].ID, api.Done, api.Gone) {
		return api.ErrOver
	}
	does := deeds{}
	switch a.Kind {
	case api.ActUser:
		x, ok := c.item(a.Item)
		if !ok || x.Parent == "" {
			return api.ErrArg
		}
		task := x.Kind == api.Task && a.Event == api.Complete && c.is(x.ID, api.Open)
		listener := x.Kind == api.Listener && a.Event == api.Occur && c.is(x.ID, api.Ready)
		exit := a.Event == api.Exit && c.is(x.ID, api.Open, api.Ready)
		if !task && !listener && !exit {
			return api.ErrState
		}
		does[x.ID] = a.Event
	case api.ActWrite:
		if !slices.Contains(c.m.Files, a.File) || a.N > api.MaxN || a.N < -api.MaxN {
			return api.ErrArg
		}
		c.file[a.File] = a.N
	case api.ActTick:
		c.now++
		for _, x := range c.m.Items {
			if x.Kind == api.Timer && c.is(x.ID, api.Ready) {
				if c.ticks[x.ID]++; c.ticks[x.ID] == x.Ticks {
					does[x.ID] = api.Occur
				}
			}
		}
		if len(does) > 1 {
			c.seen["timers at once"]++
		}
	}
	c.round(does)
	c.goOn()
	return api.OK
}

var theOps = []string{"<", "<=", "=", "!=", ">=", ">"}

// pick is one of some things.
func pick[T any](r *rand.Rand, from ...T) T {
	return from[r.Intn(len(from))]
}

// grown is a model that may be, of any shape, with short Timers.
func grown(r *rand.Rand) api.Model {
	m := api.Model{Files: []string{"f", "g", "h", "x0", "F", "_"}[:r.Intn(api.MaxFiles+1)]}
	m.Items = []api.Item{{ID: pick(r, "plan", "p", "f"), Kind: api.Stage}}
	open := []string{m.Items[0].ID}
	for i := range r.Intn(api.MaxItems) {
		open = open[:1+r.Intn(min(len(open), api.MaxStages))]
		item := api.Item{ID: "x" + strconv.Itoa(i), Kind: pick(r, api.Stage, api.Stage, api.Task, api.Milestone, api.Listener, api.Timer), Parent: open[len(open)-1]}
		if item.Kind == api.Timer {
			item.Ticks = 1 + r.Intn(3)
		}
		item.Required = pick(r, true, false, false) && item.Kind <= api.Milestone
		m.Items = append(m.Items, item)
		if item.Kind == api.Stage {
			open = append(open, item.ID)
		}
	}
	many := pick(r, 1, 2, 4, 6)
	for i := range m.Items[1:] {
		x := &m.Items[i+1]
		if x.Kind <= api.Milestone && r.Intn(8) < many {
			x.Entry = grownSentries(r, m)
		}
		if r.Intn(8) < many {
			x.Exit = grownSentries(r, m)
		}
	}
	return m
}

func grownSentries(r *rand.Rand, m api.Model) []api.Sentry {
	var row []api.Sentry
	for range 1 + r.Intn(api.MaxSentries) {
		var s api.Sentry
		for range pick(r, 0, 1, 1, 2, 3) {
			item := pick(r, m.Items...)
			on := api.On{Item: item.ID, Event: pick(r, api.Create, api.Start, api.Complete, api.Occur, api.Exit)}
			if model.Legal(item.Kind, on.Event) && !slices.Contains(s.On, on) {
				s.On = append(s.On, on)
			}
		}
		if len(m.Files) > 0 {
			for range pick(r, 0, 0, 1, 2) {
				s.If = append(s.If, api.Cond{File: pick(r, m.Files...), Op: pick(r, theOps...), N: pick(r, 0, 1, -1, 2, -2)})
			}
		}
		if len(s.On)+len(s.If) > 0 {
			row = append(row, s)
		}
	}
	return row
}

// grownAct is an act that mostly may be.
func grownAct(r *rand.Rand, m api.Model) api.Act {
	switch r.Intn(10) {
	case 0, 1, 2, 3, 4:
		return api.Act{Kind: api.ActUser, Item: pick(r, m.Items...).ID, Event: pick(r, api.Complete, api.Occur, api.Complete, api.Occur, api.Exit, api.Start, api.Create)}
	case 5, 6:
		if len(m.Files) > 0 {
			return api.Act{Kind: api.ActWrite, File: pick(r, m.Files...), N: pick(r, 0, 1, -1, 2, -2, 3, -3)}
		}
	case 7:
		return api.Act{Kind: r.Intn(6) - 1, Item: pick(r, "", "x1", "zz", "f"), Event: r.Intn(8) - 1, File: pick(r, "f", "", "x1", "zz"), N: pick(r, 0, api.MaxN, -api.MaxN, api.MaxN+1, -api.MaxN-1)}
	}
	return api.Act{Kind: api.ActTick}
}
