package plan_test

import (
	"math/rand"
	"strconv"
	"testing"

	"sentry/api"
	"sentry/model"
	"sentry/plan"
)

// P9.1: the example of the chapter.
func TestExample(t *testing.T) {
	c, err := plan.New(api.Model{Items: []api.Item{{ID: "plan", Kind: api.Stage}, {ID: "a", Kind: api.Task, Parent: "plan"}}})
	if err != api.OK || c.State("a") != api.Open {
		t.Error(err, c.State("a"))
	}
}

// P9.1: what a case goes through by itself behind New: of one item, of each kind, of stages within stages.
func TestNew(t *testing.T) {
	deep := of(stage("a"), stage("b").in("a"), stage("c").in("b"), stage("d").in("c"), task("e").in("d"))
	runAll(t,
		play{"a plan that is over at once", of(), "D", 1, []step{over(tick(), "D"), over(exit("p"), "D"), over(write("f", 1), "D")}},
		play{"a stage in which nothing is", of(stage("a")), "DD", 4, []step{over(tick(), "DD")}},
		play{"a task", of(task("a")), "OO", 2, []step{ok(complete("a"), "DD", 2), over(complete("a"), "DD")}},
		play{"a milestone", of(mile("a")), "DD", 3, nil},
		play{"a listener", of(hear("a")), "DG", 2, []step{over(occur("a"), "DG")}},
		play{"a timer", of(timer("a", 1)), "DG", 2, []step{over(tick(), "DG")}},
		play{"a stage that waits", of(stage("a").enter(isOne("f"))), "DG", 2, nil},
		play{"a task that waits", of(task("a").enter(isOne("f"))), "DG", 2, nil},
		play{"a milestone that waits", of(mile("a").enter(isOne("f"))), "DG", 2, nil},
		play{"a stage that must be", of(stage("a").must().enter(isOne("f"))), "OR", 1, []step{ok(write("f", 1), "DD", 3)}},
		play{"a task that must be", of(task("a").must().enter(isOne("f"))), "OR", 1, []step{ok(write("f", 1), "OO", 1)}},
		play{"a milestone that must be", of(mile("a").must().enter(isOne("f"))), "OR", 1, []step{ok(write("f", 1), "DD", 2)}},
		play{"an entry that holds at once", of(task("a").enter(cond(when("f", "<=", 0)))), "OO", 2, nil},
		play{"an exit that holds at once", of(task("a").leave(cond(when("f", "<=", 0)))), "DG", 2, nil},
		play{"stages within stages", deep, "OOOOOO", 10, []step{ok(complete("e"), "DDDDDD", 6), over(tick(), "DDDDDD")}},
	)
}

// P9.1: a model that may not be is ErrModel, and there is no case.
func TestModelsThatMayNotBe(t *testing.T) {
	holdNone := func(what string, m api.Model) {
		t.Helper()
		if c, err := plan.New(m); c != nil || err != api.ErrModel {
			t.Errorf("%s: %v, %v", what, c, err)
		}
	}
	holdNone("nothing", api.Model{})
	holdNone("Files alone", api.Model{Files: []string{"f"}})
	for _, change := range []func(m *api.Model){
		func(m *api.Model) { m.Files = append(m.Files, "f") },
		func(m *api.Model) { m.Items[0].Kind = api.Task },
		func(m *api.Model) { m.Items[0].Parent = "p" },
		func(m *api.Model) { m.Items[0].Required = true },
		func(m *api.Model) { m.Items[0].Exit = []api.Sentry{isOne("f")} },
		func(m *api.Model) { m.Items[1].ID = "p" },
		func(m *api.Model) { m.Items[1].Parent = "b" },
		func(m *api.Model) { m.Items[1].Parent = "zz" },
		func(m *api.Model) { m.Items[1].Kind = 0 },
		func(m *api.Model) { m.Items[2].Ticks = 0 },
		func(m *api.Model) { m.Items[2].Ticks = api.MaxTicks + 1 },
		func(m *api.Model) { m.Items[1].Entry[0].On[0].Event = api.Start },
		func(m *api.Model) { m.Items[1].Entry[0].On[0].Item = "zz" },
		func(m *api.Model) { m.Items[1].Entry = []api.Sentry{isOne("zz")} },
		func(m *api.Model) { m.Items[1].Entry = []api.Sentry{{}} },
		func(m *api.Model) { m.Items[1].Entry = []api.Sentry{cond(when("f", "==", 0))} },
		func(m *api.Model) {
			for i := range api.MaxItems {
				m.Items = append(m.Items, task("x"+strconv.Itoa(i)).in("p").Item)
			}
		},
	} {
		m := of(task("a").enter(wait(on("b", api.Occur))), timer("b", 2))
		if !model.Is(m) {
			t.Fatal(m)
		}
		change(&m)
		if model.Is(m) {
			t.Errorf("%v may be", m)
		}
		holdNone("changed", m)
	}
}

// P9.1, P9.3: rounds end, in any model, as each item does at most three things; behind
// New none does anything by itself any more, so that what changes nothing has no round.
func TestRoundsEnd(t *testing.T) {
	r := rand.New(rand.NewSource(90))
	for range 3000 {
		m := grown(r)
		x := try(t, m)
		rounds := x.c.Rounds()
		if rounds > 3*len(m.Items) {
			t.Fatalf("%d rounds of %v", rounds, m)
		}
		if len(m.Files) > 0 && x.do(write(m.Files[0], 0)) == api.OK && x.c.Rounds() != rounds {
			t.Fatalf("a round more of %v", m)
		}
	}
}
