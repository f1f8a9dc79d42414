package xlate_test

import (
	"math/rand"
	"slices"
	"strconv"
	"testing"

	"sentry/api"
	"sentry/gsm"
	"sentry/plan"
	"sentry/xlate"
)

// both is a case of a model beside a machine of its program.
type both struct {
	t    *testing.T
	m    api.Model
	c    *plan.Case
	g    *gsm.Machine
	seen map[string]int
}

func runBoth(t *testing.T, m api.Model) *both {
	t.Helper()
	p, err := xlate.To(m)
	c, errC := plan.New(m)
	g, errG := gsm.New(p)
	if err != api.OK || errC != api.OK || errG != api.OK {
		t.Fatalf("%v, %v, %v of %+v", err, errC, errG, m)
	}
	x := &both{t, m, c, g, map[string]int{}}
	x.hold("behind New")
	return x
}

// hold holds what the machine tells against what the case tells.
func (x *both) hold(when any) {
	x.t.Helper()
	flags := x.g.Flags()
	if got, want := xlate.States(x.m, flags), x.c.States(); !slices.Equal(got, want) {
		x.t.Errorf("%v: %v, not %v", when, got, want)
	}
	for _, item := range x.m.Items {
		ups := 0
		for _, state := range []int{api.Ready, api.Open, api.Done, api.Gone} {
			up := x.g.Up(xlate.Flag(x.m, item.ID, state))
			if up {
				ups++
			}
			if up != (x.c.State(item.ID) == state) {
				x.t.Errorf("%v: %s is in %d: %v", when, item.ID, state, up)
			}
		}
		if ups > 1 {
			x.t.Errorf("%v: %s has %d flags up", when, item.ID, ups)
		}
	}
	for _, file := range append(x.m.Files, "zz") {
		if x.g.File(file) != x.c.File(file) {
			x.t.Errorf("%v: %s is %d, not %d", when, file, x.g.File(file), x.c.File(file))
		}
	}
	x.holdMarks(when)
	if x.t.Failed() {
		x.t.Fatalf("the model is %+v", x.m)
	}
}

// holdMarks asks whether a sentry that holds has all its marks up.
func (x *both) holdMarks(when any) {
	x.t.Helper()
	mark := 4 * len(x.m.Items)
	for _, item := range x.m.Items {
		for n, w := range sentriesOf(item) {
			all := true
			for range w.On {
				all = all && x.g.Up(mark)
				mark++
			}
			met := x.c.Met(item.ID, false, n)
			if n >= len(item.Entry) {
				met = x.c.Met(item.ID, true, n-len(item.Entry))
			}
			if met && !all || !met && all && len(w.If) == 0 {
				x.t.Errorf("%v: %s: %v, though its marks are %v", when, w.name, met, all)
			}
		}
	}
}

func (x *both) do(a api.Act) api.Errno {
	x.t.Helper()
	got, want := x.g.Do(a), x.c.Do(a)
	if got != want {
		x.t.Errorf("%v: %v, not %v", a, got, want)
	}
	x.hold(a)
	x.seen[strconv.Itoa(a.Kind)+": "+got.Error()]++
	return got
}

// P12.1, P12.3: a machine of a model's program goes on as a case of the model
// does, act by act.
func TestRunsAsTheCase(t *testing.T) {
	seen := map[string]int{}
	for seed := range 3000 {
		r := rand.New(rand.NewSource(int64(seed)))
		m := lively(r)
		x := runBoth(t, m)
		for ended, acts := 0, 0; ended < 2 && acts < 30; acts++ {
			if x.do(grownAct(r, m)) == api.ErrOver {
				ended++
			}
		}
		for what, n := range x.seen {
			seen[what] += n
		}
	}
	for _, what := range []string{"1: sentry: error 0", "1: sentry: error 1", "1: sentry: error 8", "1: sentry: error 9", "2: sentry: error 0", "2: sentry: error 1", "2: sentry: error 9", "3: sentry: error 0", "3: sentry: error 9", "0: sentry: error 1", "4: sentry: error 1"} {
		if seen[what] < 20 {
			t.Errorf("%s: %d", what, seen[what])
		}
	}
}

// P12.1, P12.3: plays that ask for one thing each, as letters of all states
// behind New and behind each act.
func TestPlays(t *testing.T) {
	user := func(id string, event int) api.Act { return api.Act{Kind: api.ActUser, Item: id, Event: event} }
	tick := api.Act{Kind: api.ActTick}
	one := func(file string) api.Act { return api.Act{Kind: api.ActWrite, File: file, N: 1} }
	isOne := func(file string) api.Sentry { return cond(when(file, "=", 1)) }
	for what, x := range map[string]struct {
		m      api.Model
		states string
		acts   []api.Act
	}{
		"the plan alone":                        {of(), "D", nil},
		"a Task":                                {of(task("a")), "OO DD", []api.Act{user("a", api.Complete)}},
		"an Exit ahead of a Start":              {of(task("a").must().enter(isOne("f")).leave(isOne("f"))), "OR DG", []api.Act{one("f")}},
		"closed from within":                    {of(stage("s").must().leave(isOne("f")), stage("u").in("s"), task("a").in("u"), task("k").must()), "OOOOO OGGGO", []api.Act{one("f")}},
		"closed by what is gone, not yet there": {of(stage("s").leave(wait(on("s", api.Start))), task("a").in("s"), task("k").must()), "OGWO", nil},
		"a Stage waits for what is Required":    {of(stage("s"), mile("b").in("s").must().enter(isOne("f")), mile("c").in("s").enter(isOne("g")), task("k").must()), "OORRO ODDGO", []api.Act{one("f")}},
		"a Timer and what waits for it":         {of(timer("w", 2), task("a").must().enter(wait(on("w", api.Occur)))), "ORR ORR ODO", []api.Act{tick, tick}},
		"a Listener's Occur, and its Exit":      {of(hear("l"), hear("k"), mile("b").must().enter(wait(on("l", api.Occur), on("k", api.Exit)))), "ORRR ORGR DDGD", []api.Act{user("k", api.Exit), user("l", api.Occur)}},
		"the plan's Start is told of never":     {of(mile("b").must().enter(wait(on("p", api.Start)), wait(on("p", api.Create))), task("a")), "ORO ORD", []api.Act{user("a", api.Complete)}},
		"a user's Exit of a Stage closes all":   {of(stage("s"), task("a").in("s"), hear("l").in("s"), task("k").must()), "OOORO OGGGO", []api.Act{user("s", api.Exit)}},
	} {
		t.Run(what, func(t *testing.T) {
			r := runBoth(t, x.m)
			told := func() string {
				s := ""
				for _, n := range xlate.States(x.m, r.g.Flags()) {
					s += "WRODG"[n : n+1]
				}
				return s
			}
			got := told()
			for _, a := range x.acts {
				r.do(a)
				got += " " + told()
			}
			if got != x.states {
				t.Errorf("%s, not %s", got, x.states)
			}
		})
	}
}

// P12.1: the greatest program comes to rest.
func TestMostRuns(t *testing.T) {
	m := most()
	x := runBoth(t, m)
	for _, a := range []api.Act{{Kind: api.ActWrite, File: "a", N: 1}, {Kind: api.ActTick}, {Kind: api.ActUser, Item: "x15", Event: api.Exit}, {Kind: api.ActUser, Item: "x1", Event: api.Exit}} {
		x.do(a)
	}
}

// P12.1, P12.2, P12.3: any model that grows from a seed, any acts that bytes tell.
func FuzzTo(f *testing.F) {
	f.Add(int64(1), []byte{0, 1, 3, 1, 0, 5, 2, 0, 0})
	f.Add(int64(7), []byte{2, 0, 0, 2, 0, 0, 2, 0, 0, 0, 2, 4, 0, 3, 5})
	f.Add(int64(42), []byte{1, 0, 2, 1, 1, 254, 0, 9, 9, 3, 3, 3})
	f.Fuzz(func(t *testing.T, seed int64, script []byte) {
		m := lively(rand.New(rand.NewSource(seed)))
		hold(t, m)
		x := runBoth(t, m)
		for acts := 0; len(script) >= 3 && acts < 60; acts++ {
			a := api.Act{Kind: int(script[0]) % 5, Item: "zz", Event: int(script[2]) % 7, File: "zz", N: int(int8(script[2]))}
			if i := int(script[1]); i < len(m.Items) {
				a.Item = m.Items[i].ID
			}
			if i := int(script[1]); i < len(m.Files) {
				a.File = m.Files[i]
			}
			x.do(a)
			script = script[3:]
		}
	})
}
