package plan_test

import (
	"fmt"
	"slices"
	"testing"

	"sentry/api"
	"sentry/model"
	"sentry/plan"
)

// letters is states as a text.
func letters(states []int) string {
	s := ""
	for _, n := range states {
		if n < 0 || n > 4 {
			return fmt.Sprint(states)
		}
		s += "WRODG"[n : n+1]
	}
	return s
}

// tried is a case beside the told one, of the same model.
type tried struct {
	t *testing.T
	c *plan.Case
	o *told
}

// try is a case of a model that is spoiled as soon as it was handed in.
func try(t *testing.T, m api.Model) *tried {
	t.Helper()
	if !model.Is(m) {
		t.Fatalf("%v may not be", m)
	}
	given := model.Copy(m)
	c, err := plan.New(given)
	if err != api.OK || c == nil {
		t.Fatalf("%v: %v, %v", m, c, err)
	}
	spoil(given)
	x := &tried{t, c, newTold(m)}
	x.hold("behind New")
	return x
}

// spoil makes another model of one, in its own memory.
func spoil(m api.Model) {
	for i := range m.Files {
		m.Files[i] = "spoiled"
	}
	for i := range m.Items {
		for _, s := range slices.Concat(m.Items[i].Entry, m.Items[i].Exit) {
			clear(s.On)
			clear(s.If)
		}
		clear(m.Items[i].Entry)
		clear(m.Items[i].Exit)
	}
	clear(m.Items)
}

// hold holds all that the case tells against the told one.
func (x *tried) hold(when any) {
	x.t.Helper()
	c, o := x.c, x.o
	var states []int
	for _, item := range o.m.Items {
		states = append(states, o.state[item.ID])
		if got := c.State(item.ID); got != o.state[item.ID] {
			x.t.Errorf("%v: %s is %d, not %d", when, item.ID, got, o.state[item.ID])
		}
		x.holdSentries(when, item.ID, false, item.Entry)
		x.holdSentries(when, item.ID, true, item.Exit)
	}
	if got := c.States(); !slices.Equal(got, states) {
		x.t.Errorf("%v: %s, not %s", when, letters(got), letters(states))
	}
	for _, file := range o.m.Files {
		if got := c.File(file); got != o.file[file] {
			x.t.Errorf("%v: %s is %d, not %d", when, file, got, o.file[file])
		}
	}
	if c.Now() != o.now || c.Rounds() != o.rounds {
		x.t.Errorf("%v: tick %d, round %d, not %d, %d", when, c.Now(), c.Rounds(), o.now, o.rounds)
	}
	for _, none := range []string{"", "zz", "P", "p ", "spoiled"} {
		if c.State(none) != 0 || c.File(none) != 0 || c.Met(none, false, 0) || c.Met(none, true, 0) {
			x.t.Errorf("%v: there is no %q", when, none)
		}
	}
	if x.t.Failed() {
		x.t.Fatalf("the model is %v", o.m)
	}
}

func (x *tried) holdSentries(when any, id string, exit bool, row []api.Sentry) {
	x.t.Helper()
	for i := -2; i < len(row)+3; i++ {
		want := i >= 0 && i < len(row) && x.o.holds(row[i])
		if x.c.Met(id, exit, i) != want {
			x.t.Errorf("%v: sentry %d of %s (Exit: %v) is not %v", when, i, id, exit, want)
		}
	}
}

// do has an act happen to both.
func (x *tried) do(a api.Act) api.Errno {
	x.t.Helper()
	got, want := x.c.Do(a), x.o.do(a)
	if got != want {
		x.t.Errorf("%v: %v, not %v", a, got, want)
	}
	x.hold(a)
	return got
}

// step is an act, what it answers, the states behind it, and how many rounds did something.
type step struct {
	act    api.Act
	err    api.Errno
	states string
	rounds int
}

// play is a model, the states and the rounds behind New, and what happens then.
type play struct {
	name   string
	m      api.Model
	states string
	rounds int
	steps  []step
}

func (p play) run(t *testing.T) {
	t.Helper()
	t.Run(p.name, func(t *testing.T) {
		x := try(t, p.m)
		if got := letters(x.c.States()); got != p.states || x.c.Rounds() != p.rounds {
			t.Fatalf("%s in %d rounds, not %s in %d", got, x.c.Rounds(), p.states, p.rounds)
		}
		for i, s := range p.steps {
			was := x.c.Rounds()
			err := x.do(s.act)
			if got := letters(x.c.States()); err != s.err || got != s.states || x.c.Rounds()-was != s.rounds {
				t.Fatalf("%d: %v, %s in %d rounds, not %v, %s in %d", i, err, got, x.c.Rounds()-was, s.err, s.states, s.rounds)
			}
		}
	})
}

func runAll(t *testing.T, plays ...play) {
	t.Helper()
	for _, p := range plays {
		p.run(t)
	}
}

// Acts.
func user(id string, event int) api.Act     { return api.Act{Kind: api.ActUser, Item: id, Event: event} }
func write(file string, n int) api.Act      { return api.Act{Kind: api.ActWrite, File: file, N: n} }
func tick() api.Act                         { return api.Act{Kind: api.ActTick} }
func complete(id string) api.Act            { return user(id, api.Complete) }
func occur(id string) api.Act               { return user(id, api.Occur) }
func exit(id string) api.Act                { return user(id, api.Exit) }
func ok(a api.Act, s string, n int) step    { return step{a, api.OK, s, n} }
func wrong(a api.Act, s string) step        { return step{a, api.ErrArg, s, 0} }
func early(a api.Act, s string) step        { return step{a, api.ErrState, s, 0} }
func over(a api.Act, s string) step         { return step{a, api.ErrOver, s, 0} }
func on(id string, event int) api.On        { return api.On{Item: id, Event: event} }
func when(f, op string, n int) api.Cond     { return api.Cond{File: f, Op: op, N: n} }
func wait(l ...api.On) api.Sentry           { return api.Sentry{On: l} }
func cond(l ...api.Cond) api.Sentry         { return api.Sentry{If: l} }
func isOne(f string) api.Sentry             { return cond(when(f, "=", 1)) }
func started(id string) api.Sentry          { return wait(on(id, api.Start)) }
func completed(id string) api.Sentry        { return wait(on(id, api.Complete)) }
func occurred(id string) api.Sentry         { return wait(on(id, api.Occur)) }
func exited(id string) api.Sentry           { return wait(on(id, api.Exit)) }
func created(id string) api.Sentry          { return wait(on(id, api.Create)) }
func plain(id string, kind int) built       { return built{api.Item{ID: id, Kind: kind}} }
func stage(id string) built                 { return plain(id, api.Stage) }
func task(id string) built                  { return plain(id, api.Task) }
func mile(id string) built                  { return plain(id, api.Milestone) }
func hear(id string) built                  { return plain(id, api.Listener) }
func (b built) in(id string) built          { b.Parent = id; return b }
func (b built) must() built                 { b.Required = true; return b }
func (b built) enter(l ...api.Sentry) built { b.Entry = l; return b }
func (b built) leave(l ...api.Sentry) built { b.Exit = l; return b }

func timer(id string, ticks int) built {
	b := plain(id, api.Timer)
	b.Ticks = ticks
	return b
}

// built is an item that is being built.
type built struct{ api.Item }

// of is a model of a plan p and items, in p if they do not say otherwise, and two Files.
func of(items ...built) api.Model {
	m := api.Model{Files: []string{"f", "g"}, Items: []api.Item{{ID: "p", Kind: api.Stage}}}
	for _, b := range items {
		if b.Parent == "" {
			b.Parent = "p"
		}
		m.Items = append(m.Items, b.Item)
	}
	return m
}
