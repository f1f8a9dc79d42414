package plan_test

import (
	"slices"
	"testing"

	"sentry/api"
	"sentry/plan"
)

// P9.2: what a case tells, behind New and behind acts.
func TestTells(t *testing.T) {
	m := of(hear("l"), task("a").must().enter(created("l"), cond(when("f", ">=", 2))).leave(wait(on("a", api.Start), on("l", api.Occur))), timer("w", 2))
	c, _ := plan.New(m)
	hold := func(when, states string, now, rounds int) {
		t.Helper()
		if got := letters(c.States()); got != states || c.Now() != now || c.Rounds() != rounds {
			t.Errorf("%s: %s, tick %d, round %d, not %s, %d, %d", when, got, c.Now(), c.Rounds(), states, now, rounds)
		}
		for i, id := range []string{"p", "l", "a", "w"} {
			if "WRODG"[c.State(id)] != states[i] {
				t.Errorf("%s: %s is %d", when, id, c.State(id))
			}
		}
	}
	hold("behind New", "OROR", 0, 2)
	if !c.Met("a", false, 0) || c.Met("a", false, 1) || c.Met("a", true, 0) || c.File("f") != 0 {
		t.Error("behind New")
	}
	c.Do(write("f", 2))
	hold("written", "OROR", 0, 2)
	if !c.Met("a", false, 1) || c.File("f") != 2 || c.File("g") != 0 {
		t.Error("written")
	}
	c.Do(tick())
	hold("a tick", "OROR", 1, 2)
	c.Do(tick())
	hold("two ticks", "OROD", 2, 3)
	c.Do(write("f", -5))
	if c.Met("a", false, 1) || c.File("f") != -5 {
		t.Error("written over")
	}
	c.Do(occur("l"))
	hold("over", "DDGD", 2, 6)
	// What happened stays told behind the end.
	if !c.Met("a", false, 0) || !c.Met("a", true, 0) || c.File("f") != -5 {
		t.Error("over")
	}
}

// P9.2: of an item, a File, a sentry that there is none of: nothing.
func TestThereIsNone(t *testing.T) {
	always := cond(when("f", "=", 0))
	c, _ := plan.New(of(task("a").enter(always, always, always).leave(cond(when("f", "=", 1)), always), hear("f")))
	for _, id := range []string{"", "zz", "A", "a ", "g", "\xff"} {
		if c.State(id) != 0 {
			t.Errorf("%q is %d", id, c.State(id))
		}
		for i := -1; i < 4; i++ {
			if c.Met(id, false, i) || c.Met(id, true, i) {
				t.Errorf("%q, %d", id, i)
			}
		}
	}
	c, _ = plan.New(of(task("a").must().enter(always, always, always).leave(cond(when("f", "=", 1)), cond(when("f", "=", 2)), always), hear("f")))
	for _, i := range []int{-1 << 63, -1 << 32, -3, -2, -1, 3, 4, 5, 1 << 32, 1<<63 - 1} {
		if c.Met("a", false, i) || c.Met("a", true, i) || c.Met("f", false, i) || c.Met("p", true, i) {
			t.Error(i)
		}
	}
	for i := range 3 {
		if !c.Met("a", false, i) || c.Met("a", true, i) != (i == 2) || c.Met("f", false, i) || c.Met("f", true, i) || c.Met("p", false, i) {
			t.Error(i)
		}
	}
	for _, file := range []string{"", "zz", "F", "a", "p", "f "} {
		if c.File(file) != 0 {
			t.Errorf("%q is %d", file, c.File(file))
		}
	}
}

// P9.2: a File and an item of one name are two.
func TestAFileAndAnItemOfOneName(t *testing.T) {
	c, _ := plan.New(of(task("f").must(), task("g").must().enter(isOne("f"))))
	if c.Do(write("f", 1)) != api.OK || c.File("f") != 1 || c.State("f") != api.Open || c.State("g") != api.Open || c.Do(complete("f")) != api.OK || c.File("f") != 1 || c.State("f") != api.Done {
		t.Error(letters(c.States()), c.File("f"))
	}
}

// P9.2: States are in m's order, whatever the IDs are.
func TestStatesInOrder(t *testing.T) {
	c, _ := plan.New(of(task("z"), hear("y"), stage("x"), task("c").in("x").must().enter(isOne("f")), mile("b"), task("a").enter(isOne("f"))))
	if letters(c.States()) != "OORORDR" {
		t.Error(letters(c.States()))
	}
}

// P9.2: a sentry's Met is not asked of its item's state: it may hold while the item is in Wait, and when it is over.
func TestMetInAnyState(t *testing.T) {
	always := cond(when("g", "=", 0))
	x := try(t, of(task("k").must(), stage("s").enter(isOne("f")), task("a").in("s").must().enter(always).leave(completed("p"))))
	if !x.c.Met("a", false, 0) || x.c.State("a") != api.Wait {
		t.Error("in Wait")
	}
	x.do(write("f", 1))
	x.do(complete("a"))
	if !x.c.Met("a", false, 0) || x.c.Met("a", true, 0) {
		t.Error("Done")
	}
	x.do(complete("k"))
	// The plan's Complete has happened too, though nothing can wait for it any more.
	if letters(x.c.States()) != "DDDD" || !x.c.Met("a", true, 0) {
		t.Error(letters(x.c.States()))
	}
}

// P9.2: asking changes nothing, and asked again the answer is the same.
func TestAskingChangesNothing(t *testing.T) {
	m := of(task("a").must(), hear("l"), timer("w", 2), mile("m").enter(occurred("w")))
	calm, _ := plan.New(m)
	x := try(t, m)
	for _, a := range []api.Act{tick(), write("f", 3), occur("l"), tick(), complete("a"), tick()} {
		for range 3 {
			x.hold("asked again")
		}
		if calm.Do(a) != x.do(a) || !slices.Equal(calm.States(), x.c.States()) || calm.Rounds() != x.c.Rounds() || calm.Now() != x.c.Now() {
			t.Error(a)
		}
	}
}

// P9.3: of a nil Case States is nothing, all else 0, false; Do answers ErrArg.
func TestNilCase(t *testing.T) {
	var c *plan.Case
	for _, a := range []api.Act{{}, {Kind: 9}, tick(), write("f", 1), write("", 0), user("a", api.Exit), user("", 0)} {
		if c.Do(a) != api.ErrArg {
			t.Error(a)
		}
	}
	if len(c.States()) != 0 || c.State("p") != 0 || c.State("") != 0 || c.File("f") != 0 || c.File("") != 0 || c.Met("p", false, 0) || c.Met("", true, -1) || c.Now() != 0 || c.Rounds() != 0 {
		t.Error("not nothing")
	}
}

// W1: a Case that New did not make has no item and no File; nothing panics.
func TestCaseNotOfNew(t *testing.T) {
	var c plan.Case
	for range 3 {
		for _, a := range []api.Act{{}, user("p", api.Exit), user("", api.Exit), write("f", 1), write("", 1)} {
			if c.Do(a) != api.ErrArg {
				t.Error(a)
			}
		}
		c.Do(tick())
		if len(c.States()) != 0 || c.State("") != 0 || c.File("") != 0 || c.Met("", false, 0) || c.Rounds() != 0 {
			t.Error("not nothing")
		}
	}
}
