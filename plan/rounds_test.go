package plan_test

import (
	"slices"
	"testing"

	"sentry/api"
)

// backwards is a model of items without Kids, last to first.
func backwards(m api.Model) api.Model {
	slices.Reverse(m.Items[1:])
	return m
}

// P9.1: a round judges all by how it was at its beginning, in whatever order the items stand.
func TestOneBehindTheOther(t *testing.T) {
	row := func() api.Model {
		return of(hear("l"), mile("a").enter(occurred("l")), mile("b").enter(occurred("a")), mile("c").enter(occurred("b")), task("k").must())
	}
	pair := func() api.Model {
		return of(hear("l"), mile("a").enter(occurred("l")), mile("b").enter(occurred("l")), task("k").must())
	}
	each := func() api.Model {
		return of(task("a").leave(started("b")), task("b").leave(started("a")))
	}
	runAll(t,
		play{"a row", row(), "ORRRRO", 2, []step{ok(occur("l"), "ODDDDO", 4)}},
		play{"a row, backwards", backwards(row()), "OORRRR", 2, []step{ok(occur("l"), "OODDDD", 4)}},
		play{"two at once", pair(), "ORRRO", 2, []step{ok(occur("l"), "ODDDO", 2)}},
		play{"two at once, backwards", backwards(pair()), "OORRR", 2, []step{ok(occur("l"), "OODDD", 2)}},
		play{"each exits as the other one starts", each(), "DGG", 4, nil},
		play{"and backwards", backwards(each()), "DGG", 4, nil},
		play{"one exits as it starts", of(task("a").leave(started("a"))), "DG", 4, nil},
		play{"one exits as it is created", of(task("a").leave(created("a")), mile("m").enter(started("a")), task("k").must()), "OGRO", 2, nil},
		play{"a stage exits as it starts", of(stage("a").leave(started("a"))), "DG", 4, nil},
	)
}

// P9.1: what is Ready and whose Exit holds does not Start, nor Occur; what is in Wait, Done, Gone does not Exit.
func TestExitAheadOfStart(t *testing.T) {
	both := func(b built) api.Model {
		return of(b.must().enter(isOne("f")).leave(isOne("f")), mile("m").enter(started(b.ID)), mile("n").enter(exited(b.ID)), task("k").must())
	}
	occurs := of(mile("a").enter(isOne("f")).leave(isOne("f")), mile("m").enter(occurred("a")), mile("n").enter(exited("a")), task("k").must())
	runAll(t,
		play{"a task", both(task("a")), "ORRRO", 2, []step{ok(write("f", 1), "OGRDO", 2)}},
		play{"a stage", both(stage("a")), "ORRRO", 2, []step{ok(write("f", 1), "OGRDO", 2)}},
		play{"a milestone", occurs, "ORRRO", 2, []step{ok(write("f", 1), "OGRDO", 2)}},
		play{"an open task", of(task("a").leave(isOne("f"))), "OO", 2, []step{ok(write("f", 1), "DG", 2)}},
		play{"a ready listener, a ready timer", of(hear("l").leave(isOne("f")), timer("w", 1).leave(isOne("g")), task("k").must()), "ORRO", 2, []step{ok(write("f", 1), "OGRO", 1), ok(write("g", 1), "OGGO", 1), ok(tick(), "OGGO", 0)}},
		play{"in Wait", of(task("k").must(), stage("s").enter(isOne("f")), task("a").in("s").leave(cond(when("g", "=", 0)))), "OORW", 2, []step{ok(write("g", 0), "OORW", 0), ok(write("f", 1), "OODG", 3)}},
		play{"Done", of(mile("m").leave(isOne("f")), task("k").must()), "ODO", 2, []step{ok(write("f", 1), "ODO", 0)}},
		play{"Gone", of(hear("m").leave(isOne("f")), task("k").must()), "ORO", 2, []step{ok(exit("m"), "OGO", 1), ok(write("f", 1), "OGO", 0)}},
	)
}

// within is a stage of a task that must be, of b, which stands in it too, and a task beside it that must be.
func within(s, b built) api.Model {
	return of(s, task("a").in("s").must(), b.in("s"), task("k").must())
}

// P9.1: when a stage does not Complete.
func TestStageCompletes(t *testing.T) {
	behindA := completed("a")
	gone := within(stage("s"), mile("b").must().enter(isOne("f")))
	runAll(t,
		play{"one Starts just now", within(stage("s"), task("b").enter(behindA)), "OOORO", 4, []step{ok(complete("a"), "OODOO", 2), ok(complete("b"), "ODDDO", 2)}},
		play{"a stage Starts just now", within(stage("s"), stage("b").enter(behindA)), "OOORO", 4, []step{ok(complete("a"), "ODDDO", 4)}},
		play{"one Occurs just now", within(stage("s"), mile("b").enter(behindA)), "OOORO", 4, []step{ok(complete("a"), "ODDDO", 3)}},
		play{"one that waits", within(stage("s"), task("b").enter(isOne("f"))), "OOORO", 4, []step{ok(complete("a"), "ODDGO", 2)}},
		play{"a listener", within(stage("s"), hear("b")), "OOORO", 4, []step{ok(complete("a"), "ODDGO", 2)}},
		play{"a timer", within(stage("s"), timer("b", 1)), "OOORO", 4, []step{ok(complete("a"), "ODDGO", 2), ok(tick(), "ODDGO", 0)}},
		play{"one that is Required", within(stage("s"), task("b").must().enter(isOne("f"))), "OOORO", 4, []step{ok(complete("a"), "OODRO", 1), ok(write("f", 1), "OODOO", 1), ok(complete("b"), "ODDDO", 2)}},
		play{"one that is Required Occurs", gone, "OOORO", 4, []step{ok(complete("a"), "OODRO", 1), ok(write("f", 1), "ODDDO", 2)}},
		play{"one that is Required is gone", gone, "OOORO", 4, []step{ok(complete("a"), "OODRO", 1), ok(exit("b"), "ODDGO", 2)}},
		play{"one that is Open", within(stage("s"), task("b")), "OOOOO", 4, []step{ok(complete("a"), "OODOO", 1), ok(exit("b"), "ODDGO", 2)}},
		play{"all that must be is gone", within(stage("s"), mile("b")), "OOODO", 4, []step{ok(exit("a"), "ODGDO", 2)}},
		play{"one Exits, and would Start", within(stage("s"), task("b").enter(behindA).leave(behindA)), "OOORO", 4, []step{ok(complete("a"), "ODDGO", 2)}},
		play{"one that is Required Exits just now", within(stage("s"), task("b").must().enter(behindA).leave(behindA)), "OOORO", 4, []step{ok(complete("a"), "ODDGO", 3)}},
		play{"it Exits", within(stage("s").leave(behindA), hear("b").leave(completed("s"))), "OOORO", 4, []step{ok(complete("a"), "OGDGO", 2)}},
		play{"what stands deeper does not count", of(stage("s"), stage("u").in("s").enter(isOne("f")), task("a").in("u").must(), task("k").must()), "ODGWO", 4, nil},
		play{"a stage within", of(stage("s"), stage("u").in("s"), task("a").in("u"), task("k").must()), "OOOOO", 6, []step{ok(complete("a"), "ODDDO", 3)}},
		play{"no user has a stage Complete", of(stage("s"), task("a").in("s")), "OOO", 4, []step{early(complete("s"), "OOO"), early(user("s", api.Start), "OOO")}},
	)
}

// P9.1: a stage that Exits does not Complete, nor has that happened.
func TestStageExitsAsItWouldComplete(t *testing.T) {
	m := of(stage("s").leave(completed("a")), task("a").in("s").must(), mile("m").enter(completed("s")), mile("n").enter(exited("s")), task("k").must())
	play{"", m, "OOORRO", 4, []step{ok(complete("a"), "OGDRDO", 3)}}.run(t)
}

// P9.1: what is closed Exits, whatever else it would do; what is in Wait in it does nothing.
func TestWhatIsClosed(t *testing.T) {
	all := of(stage("s").leave(isOne("f")), task("a").in("s").enter(isOne("f")), mile("b").in("s").enter(isOne("f")), stage("u").in("s").enter(isOne("f")),
		hear("l").in("s"), timer("w", 1).in("s"), task("o").in("s"), task("k").must(),
		mile("ma").enter(started("a")), mile("mb").enter(occurred("b")), mile("mu").enter(started("u")),
		mile("n").enter(wait(on("a", api.Exit), on("b", api.Exit), on("u", api.Exit))), mile("n2").enter(wait(on("l", api.Exit), on("w", api.Exit), on("o", api.Exit))))
	completing := of(stage("s").leave(completed("a")), stage("u").in("s"), task("a").in("u").must(), mile("m").enter(completed("u")), mile("n").enter(exited("u")), task("k").must())
	exits := stage("s").leave(isOne("f"))
	runAll(t,
		play{"each kind, in any state", all, "OORRRRROORRRRR", 4, []step{ok(write("f", 1), "OGGGGGGGORRRDD", 2), ok(tick(), "OGGGGGGGORRRDD", 0)}},
		play{"by a user", all, "OORRRRROORRRRR", 4, []step{ok(exit("s"), "OGGGGGGGORRRDD", 2), ok(write("f", 1), "OGGGGGGGORRRDD", 0)}},
		play{"a stage that would Complete", completing, "OOOORRO", 6, []step{ok(complete("a"), "OGGDRDO", 3)}},
		play{"one in Wait", of(stage("s").leave(started("s")), task("a").in("s"), task("k").must()), "OGWO", 3, []step{early(exit("a"), "OGWO"), ok(tick(), "OGWO", 0)}},
		play{"one in Wait, deeper", of(stage("s").leave(started("u")), stage("u").in("s"), task("a").in("u"), task("k").must()), "OGGWO", 5, nil},
		play{"one in Wait, in what is not there", of(stage("s").leave(isOne("f")), stage("u").in("s").must().enter(isOne("g")), task("a").in("u"), task("k").must()), "OORWO", 3, []step{ok(exit("s"), "OGGWO", 1)}},
		play{"one that Exits by itself", of(exits, stage("u").in("s").leave(isOne("f")), task("a").in("u").leave(isOne("f")), task("k").must()), "OOOOO", 6, []step{ok(write("f", 1), "OGGGO", 1)}},
		play{"within closed, without not", of(stage("s"), stage("u").in("s").leave(isOne("f")), task("a").in("u"), task("b").in("s"), task("k").must()), "OOOOOO", 6, []step{ok(write("f", 1), "OOGGOO", 1)}},
		play{"what is over", of(exits, task("a").in("s"), task("b").in("s"), task("c").in("s"), task("k").must()), "OOOOOO", 4, []step{ok(complete("a"), "OODOOO", 1), ok(exit("b"), "OODGOO", 1), ok(write("f", 1), "OGDGGO", 1)}},
		play{"a Ready stage", of(stage("s").must().enter(isOne("f")), task("a").in("s"), task("k").must()), "ORWO", 2, []step{ok(exit("s"), "OGWO", 1), ok(write("f", 1), "OGWO", 0)}},
		play{"as the plan Completes", of(stage("s").enter(isOne("f")), hear("l"), timer("w", 9), mile("m").enter(exited("l")), task("k").must()), "ORRRRO", 2, []step{ok(complete("k"), "DGGGGD", 2)}},
		play{"as a stage within Completes", of(stage("s"), stage("u").in("s").enter(isOne("f")), hear("l").in("s"), task("a").in("s").must(), mile("m").enter(exited("u")), task("k").must()), "OORRORO", 4, []step{ok(complete("a"), "ODGGDDO", 3)}},
	)
}

// P9.1: stages within one another, as deep as may be: all of it is closed in the one round, from each of them on.
func TestClosedFromEachDepth(t *testing.T) {
	ids := []string{"a", "b", "c", "d"}
	for i, id := range ids {
		m := of(stage("a"), stage("b").in("a"), stage("c").in("b"), stage("d").in("c"), task("e").in("d"), hear("l").in("d"), timer("w", 2).in("d"), task("k").must())
		want := "O" + "OOOO"[:i] + "GGGG"[i:] + "GGGO"
		// Behind it each stage without completes, as nothing is in it any more.
		for j := i - 1; j >= 0; j-- {
			want = want[:1+j] + "D" + want[2+j:]
		}
		play{id, m, "OOOOOORRO", 10, []step{ok(exit(id), want, 1+i)}}.run(t)
	}
}

// P9.1: sentries: all of one, any one of some; events that have happened stay so, conditions are asked as the file is.
func TestSentries(t *testing.T) {
	two := of(hear("l"), hear("j"), task("a").must().enter(wait(on("l", api.Occur), on("j", api.Occur))), task("b").must().enter(occurred("l"), occurred("j")),
		task("c").leave(wait(on("l", api.Occur), on("j", api.Occur))), task("d").leave(occurred("l"), occurred("j")))
	mixed := of(task("k").must(), hear("l"), mile("m").must().enter(api.Sentry{On: []api.On{on("l", api.Occur)}, If: []api.Cond{when("f", "!=", 0), when("g", "<=", -1)}}))
	third := of(task("k").must(), task("a").must().enter(isOne("f"), isOne("g"), cond(when("f", "=", 2), when("g", "=", 2))).leave(cond(when("f", "=", 3)), cond(when("f", "=", 4)), cond(when("f", "=", 5))))
	runAll(t,
		play{"all, any", two, "ORRRROO", 2, []step{ok(occur("j"), "ORDROOG", 2), ok(occur("l"), "ODDOOGG", 2)}},
		play{"all, any, the other way", two, "ORRRROO", 2, []step{ok(occur("l"), "ODRROOG", 2), ok(exit("j"), "ODGROOG", 1)}},
		play{"events and conditions", mixed, "OORR", 2, []step{ok(write("f", 1), "OORR", 0), ok(write("g", -1), "OORR", 0), ok(write("f", 0), "OORR", 0), ok(occur("l"), "OODR", 1), ok(write("g", -2), "OODR", 0), ok(write("f", -7), "OODD", 1)}},
		play{"events alone", mixed, "OORR", 2, []step{ok(occur("l"), "OODR", 1), ok(write("f", 1), "OODR", 0), ok(write("g", -1), "OODD", 1)}},
		play{"another event", mixed, "OORR", 2, []step{ok(write("f", 1), "OORR", 0), ok(write("g", -1), "OORR", 0), ok(exit("l"), "OOGR", 1)}},
		play{"the third entry", third, "OOR", 2, []step{ok(write("f", 2), "OOR", 0), ok(write("g", 2), "OOO", 1), ok(write("f", 5), "OOG", 1)}},
		play{"the second entry, the second exit", third, "OOR", 2, []step{ok(write("g", 1), "OOO", 1), ok(write("f", 4), "OOG", 1)}},
		play{"the first exit of what is Ready", third, "OOR", 2, []step{ok(write("f", 3), "OOG", 1)}},
		play{"the plan's Create and Start never were", of(mile("m").must().enter(created("p")), mile("n").must().enter(started("p"))), "ORR", 1, []step{ok(tick(), "ORR", 0)}},
		play{"its own events", of(task("a").must().enter(created("a")), task("b").enter(started("b")), task("c").leave(wait(on("c", api.Create), on("c", api.Start)))), "OORG", 3, nil},
	)
}

// P9.1: each event of each kind, as what it is waited for, and no other one happens.
func TestEventsThatHappen(t *testing.T) {
	for _, x := range []struct {
		name   string
		item   built
		acts   []api.Act
		events []int // that have happened behind all
	}{
		{"a task is ready", task("x").must().enter(isOne("f")), nil, []int{api.Create}},
		{"a task is open", task("x"), nil, []int{api.Create, api.Start}},
		{"a task is done", task("x"), []api.Act{complete("x")}, []int{api.Create, api.Start, api.Complete}},
		{"a task is gone", task("x"), []api.Act{exit("x")}, []int{api.Create, api.Start, api.Exit}},
		{"a ready task is gone", task("x").enter(isOne("f")), []api.Act{exit("x")}, []int{api.Create, api.Exit}},
		{"a stage is ready", stage("x").enter(isOne("f")), nil, []int{api.Create}},
		{"a stage is done", stage("x"), nil, []int{api.Create, api.Start, api.Complete}},
		{"a stage is gone", stage("x").leave(started("x")), nil, []int{api.Create, api.Start, api.Exit}},
		{"a milestone is ready", mile("x").enter(isOne("f")), nil, []int{api.Create}},
		{"a milestone is done", mile("x"), nil, []int{api.Create, api.Occur}},
		{"a milestone is gone", mile("x").enter(isOne("f")), []api.Act{exit("x")}, []int{api.Create, api.Exit}},
		{"a listener is ready", hear("x"), nil, []int{api.Create}},
		{"a listener is done", hear("x"), []api.Act{occur("x")}, []int{api.Create, api.Occur}},
		{"a listener is gone", hear("x"), []api.Act{exit("x")}, []int{api.Create, api.Exit}},
		{"a timer is ready", timer("x", 2), []api.Act{tick()}, []int{api.Create}},
		{"a timer is done", timer("x", 1), []api.Act{tick()}, []int{api.Create, api.Occur}},
		{"a timer is gone", timer("x", 1), []api.Act{exit("x"), tick()}, []int{api.Create, api.Exit}},
	} {
		for event := api.Create; event <= api.Exit; event++ {
			m := of(task("k").must(), x.item, mile("m").must().enter(wait(on("x", event))))
			if !legal(x.item.Kind, event) {
				continue
			}
			y := try(t, m)
			for _, a := range x.acts {
				if y.do(a) != api.OK {
					t.Fatal(x.name, a)
				}
			}
			want := slices.Contains(x.events, event)
			if y.c.Met("m", false, 0) != want || (y.c.State("m") == api.Done) != want {
				t.Errorf("%s: event %d: %d", x.name, event, y.c.State("m"))
			}
		}
	}
}

// legal tells whether an event may be waited for.
func legal(kind, event int) bool {
	return event == api.Create || event == api.Exit || (event == api.Occur) == (kind > api.Task)
}

// P9.1: each Op, at numbers ahead of, at and behind N.
func TestOps(t *testing.T) {
	for op, want := range map[string][3]bool{"<": {true, false, false}, "<=": {true, true, false}, "=": {false, true, false}, "!=": {true, false, true}, ">=": {false, true, true}, ">": {false, false, true}} {
		for _, n := range []int{-api.MaxN, -3, -1, 0, 1, 2, 256, 65536, api.MaxN} {
			for i, by := range []int{-1, 0, 1} {
				number := n + by
				if number < -api.MaxN || number > api.MaxN {
					continue
				}
				// Two Files, so that the number is not that of another one.
				x := try(t, of(task("k").must(), hear("l").leave(cond(when("g", op, n)))))
				x.do(write("f", n-by))
				err := x.do(write("g", number))
				if x.c.Met("l", true, 0) != want[i] {
					t.Errorf("%d %s %d: %v, %v", number, op, n, x.c.Met("l", true, 0), err)
				}
			}
		}
	}
}

// P9.1: both conditions of a sentry, whichever does not hold.
func TestBothConditions(t *testing.T) {
	m := of(task("k").must(), mile("m").must().enter(cond(when("f", ">", 1), when("g", "<", 1))))
	for _, x := range []struct {
		f, g int
		want int
	}{{2, 0, api.Done}, {1, 0, api.Ready}, {2, 1, api.Ready}, {1, 1, api.Ready}} {
		y := try(t, m)
		y.do(write("g", 5))
		y.do(write("f", x.f))
		y.do(write("g", x.g))
		if y.c.State("m") != x.want {
			t.Error(x, y.c.State("m"))
		}
	}
	// Two of one File.
	y := try(t, of(task("k").must(), mile("m").must().enter(cond(when("f", ">", 1), when("f", "<", 4)))))
	for _, n := range []int{1, 4, 0} {
		y.do(write("f", n))
		if y.c.State("m") != api.Ready {
			t.Error(n)
		}
	}
	if y.do(write("f", 3)); y.c.State("m") != api.Done {
		t.Error("between")
	}
}
