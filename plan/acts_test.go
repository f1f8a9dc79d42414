package plan_test

import (
	"math"
	"slices"
	"strconv"
	"testing"

	"sentry/api"
	"sentry/plan"
)

// way is how an item of a kind comes to a state.
type way struct {
	kind, state int
	acts        []api.Act
}

// ways are those to all states of all kinds, in the model of asked.
func ways() []way {
	ready, open := write("f", 1), write("g", 1)
	var out []way
	for kind := api.Stage; kind <= api.Timer; kind++ {
		out = append(out, way{kind, api.Wait, nil}, way{kind, api.Ready, []api.Act{ready}}, way{kind, api.Gone, []api.Act{ready, exit("x")}})
	}
	return append(out,
		way{api.Stage, api.Open, []api.Act{ready, open}},
		way{api.Stage, api.Done, []api.Act{ready, open, complete("y")}},
		way{api.Stage, api.Gone, []api.Act{ready, open, exit("x")}},
		way{api.Task, api.Open, []api.Act{ready, open}},
		way{api.Task, api.Done, []api.Act{ready, open, complete("x")}},
		way{api.Task, api.Gone, []api.Act{ready, open, exit("x")}},
		way{api.Milestone, api.Done, []api.Act{ready, open}},
		way{api.Listener, api.Done, []api.Act{ready, occur("x")}},
		way{api.Timer, api.Done, []api.Act{ready, tick(), tick()}})
}

// asked is a model of an item x of a kind, that comes as f is 1, and starts as
// g is; in it stands a task y, if it is a stage.
func asked(kind int) api.Model {
	x := plain("x", kind).in("s")
	switch kind {
	case api.Timer:
		x.Ticks = 2
	case api.Stage, api.Task, api.Milestone:
		x = x.enter(isOne("g"))
	}
	items := []built{task("k").must(), stage("s").enter(isOne("f")), task("j").in("s").must(), x}
	if kind == api.Stage {
		items = append(items, task("y").in("x"))
	}
	return of(items...)
}

// P9.1: what a user may have each kind do in each state, and nothing else.
func TestWhatAUserMay(t *testing.T) {
	mays := 0
	for _, w := range ways() {
		for _, event := range []int{math.MinInt, -1, 0, api.Create, api.Start, api.Complete, api.Occur, api.Exit, 6, 7, 1 << 32, math.MaxInt} {
			x := try(t, asked(w.kind))
			for _, a := range w.acts {
				if x.do(a) != api.OK {
					t.Fatal(w, a)
				}
			}
			if x.c.State("x") != w.state {
				t.Fatal(w, x.c.State("x"))
			}
			may := event == api.Exit && (w.state == api.Ready || w.state == api.Open) ||
				event == api.Complete && w.kind == api.Task && w.state == api.Open ||
				event == api.Occur && w.kind == api.Listener && w.state == api.Ready
			was, rounds := x.c.States(), x.c.Rounds()
			err := x.do(user("x", event))
			if may {
				mays++
				if err != api.OK || x.c.Rounds() != rounds+1 {
					t.Errorf("%v, %d: %v", w, event, err)
				}
			} else if err != api.ErrState || !slices.Equal(x.c.States(), was) || x.c.Rounds() != rounds {
				t.Errorf("%v, %d: %v", w, event, err)
			}
		}
	}
	// Exit of five kinds Ready and two Open, Complete of one, Occur of one.
	if mays != 9 {
		t.Error(mays)
	}
}

// P9.1: an item that there is none of, and the plan, are nothing for a user: ErrArg, whatever the event is.
func TestUsersOfNothing(t *testing.T) {
	x := try(t, of(task("a"), hear("l")))
	for _, id := range []string{"p", "", "zz", "A", "a ", "f", "\x00", "p:a"} {
		for event := -1; event <= 7; event++ {
			if err := x.do(user(id, event)); err != api.ErrArg {
				t.Errorf("%q, %d: %v", id, event, err)
			}
		}
	}
}

// P9.1: a write of a number that may be, and of one that may not; of a File that there is none of.
func TestWrites(t *testing.T) {
	m := of(task("k").must())
	m.Files = []string{"f", "g", "h", "i", "j", "k"}
	x := try(t, m)
	for _, n := range []int{-api.MaxN, 1 - api.MaxN, -1, 0, 1, api.MaxN - 1, api.MaxN} {
		for _, file := range m.Files {
			if err := x.do(write(file, n)); err != api.OK || x.c.File(file) != n {
				t.Errorf("%s, %d: %v, %d", file, n, err, x.c.File(file))
			}
		}
	}
	for _, n := range []int{math.MinInt, -1 << 32, -api.MaxN - 1, api.MaxN + 1, 1 << 32, math.MaxInt} {
		for _, file := range []string{"f", "k", "zz"} {
			if err := x.do(write(file, n)); err != api.ErrArg {
				t.Errorf("%s, %d: %v", file, n, err)
			}
		}
	}
	for _, file := range []string{"", "zz", "p", "F", "f ", "\xff"} {
		if err := x.do(write(file, 1)); err != api.ErrArg {
			t.Errorf("%q: %v", file, err)
		}
	}
	m.Files = nil
	y := try(t, m)
	for _, file := range []string{"", "f", "k"} {
		if err := y.do(write(file, 0)); err != api.ErrArg {
			t.Errorf("no Files, %q: %v", file, err)
		}
	}
}

// P9.1: a write counts at once, and no more once it is written over.
func TestWritesAndRounds(t *testing.T) {
	open := of(task("a").must().enter(cond(when("f", ">", 3))).leave(cond(when("f", "<", -3))), mile("m").must().enter(api.Sentry{On: []api.On{on("a", api.Complete)}, If: []api.Cond{when("g", "=", api.MaxN)}}))
	runAll(t,
		play{"a row of writes", open, "ORR", 1, []step{ok(write("f", 3), "ORR", 0), ok(write("f", 4), "OOR", 1), ok(write("f", 0), "OOR", 0), ok(complete("a"), "ODR", 1), ok(write("f", -4), "ODR", 0), ok(write("g", api.MaxN), "DDD", 2), over(write("g", 0), "DDD")}},
		play{"an exit", open, "ORR", 1, []step{ok(write("f", -4), "OGR", 1), ok(write("f", 4), "OGR", 0), wrong(write("g", api.MaxN+1), "OGR"), ok(write("g", api.MaxN), "OGR", 0), ok(exit("m"), "DGG", 2)}},
	)
}

// P9.1: a Timer occurs once it has been Ready for as many ticks as its Ticks, not ahead of it.
func TestTicksOfATimer(t *testing.T) {
	for _, ticks := range []int{1, 2, 3, 10, api.MaxTicks - 1, api.MaxTicks} {
		for _, late := range []int{0, 1, 7} {
			x := try(t, of(task("k").must(), hear("l"), stage("s").enter(occurred("l")), timer("w", ticks).in("s"), task("a").in("s").must()))
			for range late {
				x.do(tick())
			}
			x.do(occur("l"))
			for i := 1; i <= ticks+2; i++ {
				rounds := x.c.Rounds()
				x.do(tick())
				want, done := api.Ready, 0
				if i >= ticks {
					want = api.Done
				}
				if i == ticks {
					done = 1
				}
				if x.c.State("w") != want || x.c.Rounds() != rounds+done || x.c.Now() != late+i {
					t.Errorf("%d ticks, %d late, at %d: %d", ticks, late, i, x.c.State("w"))
				}
			}
		}
	}
}

// P9.1: Timers and what happens to them.
func TestTimers(t *testing.T) {
	both := wait(on("v", api.Occur), on("w", api.Occur))
	runAll(t,
		play{"two due in one tick", of(timer("v", 2), timer("w", 2), mile("m").must().enter(both), task("k").must()), "ORRRO", 2, []step{ok(tick(), "ORRRO", 0), ok(tick(), "ODDDO", 2), ok(tick(), "ODDDO", 0)}},
		play{"two due in two ticks", of(timer("v", 2), timer("w", 1), mile("m").must().enter(both), task("k").must()), "ORRRO", 2, []step{ok(tick(), "ORDRO", 1), ok(tick(), "ODDDO", 2)}},
		play{"two of different ages due in one tick", of(task("k").must(), timer("v", 3), hear("l"), stage("s").enter(occurred("l")), timer("w", 2).in("s"), task("a").in("s").must(), mile("m").must().enter(both)), "OORRRWWR", 2,
			[]step{ok(tick(), "OORRRWWR", 0), ok(occur("l"), "OORDOROR", 4), ok(tick(), "OORDOROR", 0), ok(tick(), "OODDODOD", 2)}},
		play{"one that comes as another one occurs", of(task("k").must(), timer("v", 1), stage("s").enter(occurred("v")), timer("w", 2).in("s"), task("a").in("s").must()), "OORRWW", 2,
			[]step{ok(tick(), "OODORO", 4), ok(tick(), "OODORO", 0), ok(tick(), "OODODO", 1)}},
		play{"its stage is closed ahead of its time", of(task("k").must(), stage("s"), timer("w", 2).in("s"), task("a").in("s").must(), mile("m").must().enter(occurred("w"))), "OOOROR", 4,
			[]step{ok(tick(), "OOOROR", 0), ok(exit("s"), "OOGGGR", 1), ok(tick(), "OOGGGR", 0), ok(tick(), "OOGGGR", 0)}},
		play{"its stage completes ahead of its time", of(task("k").must(), stage("s"), timer("w", 2).in("s"), task("a").in("s").must(), mile("m").must().enter(occurred("w"))), "OOOROR", 4,
			[]step{ok(tick(), "OOOROR", 0), ok(complete("a"), "OODGDR", 2), ok(tick(), "OODGDR", 0)}},
		play{"its stage exits in the tick in which it is due", of(task("k").must(), timer("v", 2), stage("s").leave(occurred("v")), timer("w", 2).in("s"), task("a").in("s").must()), "OORORO", 4,
			[]step{ok(tick(), "OORORO", 0), ok(tick(), "OODGDG", 2)}},
		play{"it would Exit in the tick in which it is due", of(task("k").must(), timer("v", 1), timer("w", 1).leave(occurred("v"))), "OORR", 2, []step{ok(tick(), "OODD", 1)}},
		play{"it exits a tick ahead", of(task("k").must(), timer("v", 1), timer("w", 2).leave(occurred("v"))), "OORR", 2, []step{ok(tick(), "OODG", 2), ok(tick(), "OODG", 0)}},
		play{"a user exits it", of(task("k").must(), timer("v", 1), timer("w", 1)), "OORR", 2, []step{ok(exit("v"), "OOGR", 1), ok(tick(), "OOGD", 1), early(exit("v"), "OOGD"), early(exit("w"), "OOGD")}},
		play{"no user has it occur", of(task("k").must(), timer("w", 1)), "OOR", 2, []step{early(occur("w"), "OOR"), ok(tick(), "OOD", 1)}},
		play{"what errs is no tick", of(task("k").must(), timer("w", 1)), "OOR", 2, []step{early(occur("w"), "OOR"), wrong(api.Act{Kind: 4}, "OOR"), wrong(user("p", api.Exit), "OOR"), early(complete("w"), "OOR"), ok(tick(), "OOD", 1)}},
		play{"one after the other", of(timer("u", 1), timer("v", 2), timer("w", 3), task("k").must().enter(occurred("w"))), "ORRRR", 1, []step{ok(tick(), "ODRRR", 1), ok(tick(), "ODDRR", 1), ok(tick(), "ODDDO", 2), ok(complete("k"), "DDDDD", 2), over(tick(), "DDDDD")}},
	)
}

// P9.1: as many Timers as there may be, of as many ticks each, rising, falling and all at once.
func TestManyTimers(t *testing.T) {
	for _, ticks := range []func(i int) int{
		func(i int) int { return 1 + i },
		func(i int) int { return api.MaxItems - i },
		func(i int) int { return 3 },
		func(i int) int { return 1 + i*7%5 },
	} {
		items := []built{task("k").must()}
		for i := range api.MaxItems - 2 {
			items = append(items, timer("w"+strconv.Itoa(i), ticks(i)))
		}
		x := try(t, of(items...))
		for now := range api.MaxItems + 1 {
			x.do(tick())
			for i := range api.MaxItems - 2 {
				want := api.Ready
				if ticks(i) <= now+1 {
					want = api.Done
				}
				if x.c.State("w"+strconv.Itoa(i)) != want {
					t.Errorf("timer %d of %d at %d", i, ticks(i), now+1)
				}
			}
		}
	}
}

// P9.1: a Kind that is none is ErrArg, ahead of ErrOver; that is ahead of all else.
func TestOrderOfErrors(t *testing.T) {
	acts := []api.Act{}
	for _, kind := range []int{math.MinInt, -3, -2, -1, 0, 4, 5, 6, 257, 1<<32 + 1, math.MaxInt} {
		acts = append(acts, api.Act{Kind: kind}, api.Act{Kind: kind, Item: "a", Event: api.Complete, File: "f", N: 1})
	}
	running, ended := try(t, of(task("a"))), try(t, of(task("a")))
	ended.do(complete("a"))
	for _, a := range acts {
		if running.do(a) != api.ErrArg || ended.do(a) != api.ErrArg {
			t.Error(a)
		}
	}
	for _, a := range []api.Act{user("a", api.Complete), user("a", api.Exit), user("p", api.Exit), user("zz", api.Exit), user("a", 9), write("f", 1), write("zz", 1), write("f", api.MaxN+1), tick()} {
		if ended.do(a) != api.ErrOver {
			t.Error(a)
		}
	}
	if ended.c.Now() != 0 || ended.c.File("f") != 0 || letters(ended.c.States()) != "DD" {
		t.Error("went on")
	}
}

// P9.1: of an act of a kind, nothing is asked of what is not of that kind.
func TestWhatAnActDoesNotAsk(t *testing.T) {
	x := try(t, of(task("a").must(), hear("l")))
	for _, a := range []api.Act{
		{Kind: api.ActTick, Item: "zz", Event: 77, File: "zz", N: math.MaxInt},
		{Kind: api.ActWrite, Item: "zz", Event: -1, File: "f", N: 5},
		{Kind: api.ActUser, Item: "l", Event: api.Occur, File: "zz", N: math.MinInt},
		{Kind: api.ActTick, Item: "a", Event: api.Complete, File: "f", N: 1},
		{Kind: api.ActWrite, Item: "a", Event: api.Complete, File: "g", N: 6},
	} {
		if x.do(a) != api.OK {
			t.Error(a)
		}
	}
	if letters(x.c.States()) != "OOD" || x.c.Now() != 2 || x.c.File("f") != 5 || x.c.File("g") != 6 {
		t.Error(letters(x.c.States()), x.c.Now())
	}
}

// P9.1: what errs changes nothing: a case in which much went wrong goes on as one in which nothing did.
func TestWhatErrsChangesNothing(t *testing.T) {
	m := of(task("a").must(), hear("l"), timer("w", 3), stage("s").enter(occurred("l")), task("b").in("s").must().enter(cond(when("f", "=", 2))))
	good := []api.Act{tick(), write("f", 1), occur("l"), tick(), write("f", 2), tick(), complete("b"), tick(), exit("a")}
	bad := []api.Act{{}, {Kind: 9}, user("p", api.Exit), user("zz", api.Exit), user("w", api.Occur), user("s", api.Complete), user("a", api.Start), user("l", api.Create), write("zz", 1), write("f", api.MaxN+1), write("g", -api.MaxN-1)}
	calm, _ := plan.New(m)
	x := try(t, m)
	for _, a := range good {
		for _, b := range bad {
			if err := x.do(b); err == api.OK {
				t.Fatal(b)
			}
		}
		if calm.Do(a) != api.OK || x.do(a) != api.OK || !slices.Equal(calm.States(), x.c.States()) || calm.Rounds() != x.c.Rounds() {
			t.Error(a, letters(calm.States()), letters(x.c.States()))
		}
	}
	if letters(x.c.States()) != "DGDDDD" {
		t.Error(letters(x.c.States()))
	}
}
