package xlate_test

import (
	"math/rand"
	"reflect"
	"slices"
	"strconv"
	"strings"
	"testing"

	"sentry/api"
	"sentry/model"
	"sentry/rules"
	"sentry/xlate"
)

// P12.1: the plan alone, all fields by their numbers.
func TestPlanAlone(t *testing.T) {
	p, err := xlate.To(api.Model{Items: []api.Item{{ID: "p", Kind: api.Stage}}})
	want := api.Program{
		Flags: 10, Lasting: 4, First: []int{1}, Over: []int{2, 3}, From: 6,
		Rules: []api.Rule{
			{Stratum: 5, If: []api.Lit{{Flag: 1}, {Flag: 4, Not: true}, {Flag: 9, Not: true}}, Then: []api.Set{{Flag: 7, Up: true}}},
			{Stratum: 6, If: []api.Lit{{Flag: 4}}, Then: []api.Set{{Flag: 3, Up: true}, {Flag: 0}, {Flag: 1}}},
			{Stratum: 6, If: []api.Lit{{Flag: 7}}, Then: []api.Set{{Flag: 2, Up: true}, {Flag: 1}}},
		},
		Notes: []api.Item{{ID: "p", Kind: api.Stage}},
	}
	if err != api.OK || !rules.Same(p, want) {
		t.Errorf("%v, %+v", err, p)
	}
	hold(t, of())
}

// P12.1: all fields by their numbers, of a model with a mark, a Timer and a sentry.
func TestNumbers(t *testing.T) {
	p, _ := xlate.To(of(timer("w", 7), mile("m").must().enter(api.Sentry{On: []api.On{on("w", api.Occur)}, If: []api.Cond{when("g", "!=", -2)}})))
	// p 0 to 3, w 4 to 7, m 8 to 11, the mark 12; p 13 to 18, w 19 to 24, m 25 to 30; the sentry 31.
	is := func(flags ...int) []api.Lit {
		var row []api.Lit
		for _, flag := range flags {
			row = append(row, api.Lit{Flag: max(flag, -flag), Not: flag < 0})
		}
		return row
	}
	rule := func(stratum int, when []api.Lit, up int, down ...int) api.Rule {
		r := api.Rule{Stratum: stratum, If: when, Then: []api.Set{{Flag: up, Up: true}}}
		for _, flag := range down {
			r.Then = append(r.Then, api.Set{Flag: flag})
		}
		return r
	}
	want := api.Program{Flags: 32, Lasting: 13, First: []int{1}, Over: []int{2, 3}, From: 6, Files: []string{"f", "g"}, Rules: []api.Rule{
		rule(1, is(1, 5), 18), rule(1, is(1, -4, -5, -6, -7), 18),
		rule(1, is(1, 9), 18), rule(1, is(1, -8, -9, -10, -11), 18), rule(1, is(1, -10, -11), 18),
		{Stratum: 1, If: is(12), Conds: []api.Cond{{File: "g", Op: "!=", N: -2}}, Then: []api.Set{{Flag: 31, Up: true}}},
		rule(3, is(1, -4, -5, -6, -7), 21),
		rule(3, is(31, 8, -25), 26), rule(3, is(1, -8, -9, -10, -11), 27),
		rule(4, is(1, 20), 18), rule(4, is(1, 26), 18),
		rule(5, is(1, -13, -18), 16),
		rule(6, is(4, 13), 23), rule(6, is(4, 16), 23), rule(6, is(5, 13), 23), rule(6, is(5, 16), 23),
		rule(6, is(8, 13), 29), rule(6, is(8, 16), 29), rule(6, is(9, 13), 29), rule(6, is(9, 16), 29),
		rule(7, is(13), 3, 0, 1), rule(7, is(16), 2, 1),
		rule(7, is(23), 7, 4, 5), rule(7, is(19), 7, 4, 5), rule(7, is(20, -23), 6, 4), rule(7, is(21, -13), 4),
		rule(7, is(29), 11, 8, 9), rule(7, is(25), 11, 8, 9), rule(7, is(26, -29), 10, 8), rule(7, is(27, -13), 8),
		rule(7, is(20, -23), 12),
	}}
	want.Counters = []api.Counter{{While: 4, Limit: 7, Then: 20}}
	want.Users = []api.User{
		{Item: "w", Event: api.Exit, While: is(4), Then: 19}, {Item: "w", Event: api.Exit, While: is(5), Then: 19},
		{Item: "m", Event: api.Exit, While: is(8), Then: 25}, {Item: "m", Event: api.Exit, While: is(9), Then: 25},
	}
	want.Notes = []api.Item{{ID: "p", Kind: api.Stage}, {ID: "w", Kind: api.Timer, Parent: "p", Ticks: 7}, {ID: "m", Kind: api.Milestone, Parent: "p", Required: true, Entry: []api.Sentry{{On: []api.On{{Item: "w", Event: api.Occur}}, If: []api.Cond{{File: "g", Op: "!=", N: -2}}}}}}
	if !rules.Same(p, want) {
		t.Errorf("%+v, not %+v", p, want)
	}
}

// P12.1: where all flags stand: marks and sentries of Entry ahead of those of
// Exit, item by item; a sentry without On has no mark.
func TestFlagsInOrder(t *testing.T) {
	m := sample()
	p := hold(t, m)
	// Marks: s has 2, u 1, a 3, b 3 and 1 of Entry, 1 and 0 of Exit, l 2, w 0, z 1.
	if p.Lasting != 32+14 || p.Flags != 46+48+2+1+1+4+1+1+1 || p.From != 6 || !slices.Equal(p.First, []int{1}) || !slices.Equal(p.Over, []int{2, 3}) {
		t.Error(p.Lasting, p.Flags, p.From, p.First, p.Over)
	}
	var waits [][]int
	for _, r := range p.Rules {
		if r.Stratum == 1 && r.Then[0].Flag >= 46+48 {
			row := []int{r.Then[0].Flag}
			for _, l := range r.If {
				row = append(row, l.Flag)
			}
			waits = append(waits, row)
		}
	}
	want := [][]int{{94}, {95, 32, 33}, {96, 34}, {97, 35, 36, 37}, {98, 38, 39, 40}, {99, 41}, {100, 42}, {101}, {102, 43, 44}, {103}, {104, 45}}
	if !reflect.DeepEqual(waits, want) {
		t.Errorf("%v, not %v", waits, want)
	}
}

// P12.1, stratum 1: a sentry asks all its marks and all its If, in order.
func TestSentriesHold(t *testing.T) {
	m := of(
		task("a").enter(cond(when("f", "<", 2)), wait(on("p", api.Exit), on("b", api.Occur))).leave(wait(on("b", api.Create), on("a", api.Start), on("p", api.Complete))),
		mile("b").leave(api.Sentry{On: []api.On{on("a", api.Exit)}, If: []api.Cond{when("g", ">", 1), when("f", "!=", -1)}}, cond(when("g", "=", 0), when("g", "=", 1)), wait(on("b", api.Exit))),
	)
	holdRules(t, "sentries", m, "1", `
		1: p.open a.open => +p.h
		1: p.open -a.ready -a.open -a.done -a.gone => +p.h
		1: p.open b.open => +p.h
		1: p.open -b.ready -b.open -b.done -b.gone => +p.h
		1: f<2 => +a<0
		1: a<1.0 a<1.1 => +a<1
		1: a>0.0 a>0.1 a>0.2 => +a>0
		1: b>0.0 g>1 f!=-1 => +b>0
		1: g=0 g=1 => +b>1
		1: b>2.0 => +b>2
	`)
}

// P12.1, stratum 1: what holds a Stage up by how its Kids are, Kid by Kid; of
// what is Required one more; a Stage without Kids, and what is none.
func TestKidsHoldUp(t *testing.T) {
	m := of(stage("s").must().enter(cond(when("f", "=", 1))), stage("t").in("s"), task("a").in("t").must(), mile("b").in("s").must(), hear("l").in("s"), task("c"), timer("w", 1), stage("e"))
	holdRules(t, "kids", m, "1", `
		1: p.open s.open => +p.h
		1: p.open -s.ready -s.open -s.done -s.gone => +p.h
		1: p.open -s.done -s.gone => +p.h
		1: p.open c.open => +p.h
		1: p.open -c.ready -c.open -c.done -c.gone => +p.h
		1: p.open w.open => +p.h
		1: p.open -w.ready -w.open -w.done -w.gone => +p.h
		1: p.open e.open => +p.h
		1: p.open -e.ready -e.open -e.done -e.gone => +p.h
		1: f=1 => +s<0
		1: s.open t.open => +s.h
		1: s.open -t.ready -t.open -t.done -t.gone => +s.h
		1: s.open b.open => +s.h
		1: s.open -b.ready -b.open -b.done -b.gone => +s.h
		1: s.open -b.done -b.gone => +s.h
		1: s.open l.open => +s.h
		1: s.open -l.ready -l.open -l.done -l.gone => +s.h
		1: t.open a.open => +t.h
		1: t.open -a.ready -a.open -a.done -a.gone => +t.h
		1: t.open -a.done -a.gone => +t.h
	`)
	holdRules(t, "what their Kids start", m, "4", `
		4: p.open s.s => +p.h
		4: p.open c.s => +p.h
		4: p.open w.s => +p.h
		4: p.open e.s => +p.h
		4: s.open t.s => +s.h
		4: s.open b.s => +s.h
		4: s.open l.s => +s.h
		4: t.open a.s => +t.h
	`)
	holdRules(t, "Stages complete", m, "5", `
		5: p.open -p.x -p.h => +p.c
		5: s.open -s.x -s.h => +s.c
		5: t.open -t.x -t.h => +t.c
		5: e.open -e.x -e.h => +e.c
	`)
}

// P12.1, stratum 2: each sentry of Exit twice, of each kind; those of Entry not.
func TestExits(t *testing.T) {
	now := cond(when("f", "=", 0))
	m := of(stage("s").enter(now, now).leave(now), mile("b").in("s").leave(now, wait(on("s", api.Exit)), now), task("a").enter(now), hear("l").leave(now), timer("w", 2).leave(wait(on("p", api.Exit)), now), task("c").leave(now))
	holdRules(t, "exits", m, "2", `
		2: s>0 s.ready => +s.x
		2: s>0 s.open => +s.x
		2: b>0 b.ready => +b.x
		2: b>0 b.open => +b.x
		2: b>1 b.ready => +b.x
		2: b>1 b.open => +b.x
		2: b>2 b.ready => +b.x
		2: b>2 b.open => +b.x
		2: l>0 l.ready => +l.x
		2: l>0 l.open => +l.x
		2: w>0 w.ready => +w.x
		2: w>0 w.open => +w.x
		2: w>1 w.ready => +w.x
		2: w>1 w.open => +w.x
		2: c>0 c.ready => +c.x
		2: c>0 c.open => +c.x
	`)
}

// P12.1, stratum 3: without Entry, with one and with several, of each kind, and
// what comes, in the plan and deeper; of the plan nothing.
func TestStarts(t *testing.T) {
	now := cond(when("f", "=", 0))
	m := of(stage("s").enter(now), mile("b").in("s"), task("a").in("s").enter(now, wait(on("s", api.Exit)), now), hear("l").in("s"), timer("w", 2), mile("n").enter(now, now), task("c"), stage("e"))
	holdRules(t, "starts", m, "3", `
		3: s<0 s.ready -s.x => +s.s
		3: p.open -s.ready -s.open -s.done -s.gone => +s.n
		3: b.ready -b.x => +b.s
		3: s.open -b.ready -b.open -b.done -b.gone => +b.n
		3: a<0 a.ready -a.x => +a.s
		3: a<1 a.ready -a.x => +a.s
		3: a<2 a.ready -a.x => +a.s
		3: s.open -a.ready -a.open -a.done -a.gone => +a.n
		3: s.open -l.ready -l.open -l.done -l.gone => +l.n
		3: p.open -w.ready -w.open -w.done -w.gone => +w.n
		3: n<0 n.ready -n.x => +n.s
		3: n<1 n.ready -n.x => +n.s
		3: p.open -n.ready -n.open -n.done -n.gone => +n.n
		3: c.ready -c.x => +c.s
		3: p.open -c.ready -c.open -c.done -c.gone => +c.n
		3: e.ready -e.x => +e.s
		3: p.open -e.ready -e.open -e.done -e.gone => +e.n
	`)
}

// P12.1, strata 5 + d: what is closed, depth by depth, though items stand in
// another order.
func TestCloses(t *testing.T) {
	m := of(stage("s"), stage("u").in("s"), task("a").in("u"), hear("b").in("s"), task("c"))
	holdRules(t, "closes", m, "6 7 8", `
		6: s.ready p.x => +s.z
		6: s.ready p.c => +s.z
		6: s.open p.x => +s.z
		6: s.open p.c => +s.z
		6: c.ready p.x => +c.z
		6: c.ready p.c => +c.z
		6: c.open p.x => +c.z
		6: c.open p.c => +c.z
		7: u.ready s.x => +u.z
		7: u.ready s.c => +u.z
		7: u.ready s.z => +u.z
		7: u.open s.x => +u.z
		7: u.open s.c => +u.z
		7: u.open s.z => +u.z
		7: b.ready s.x => +b.z
		7: b.ready s.c => +b.z
		7: b.ready s.z => +b.z
		7: b.open s.x => +b.z
		7: b.open s.c => +b.z
		7: b.open s.z => +b.z
		8: a.ready u.x => +a.z
		8: a.ready u.c => +a.z
		8: a.ready u.z => +a.z
		8: a.open u.x => +a.z
		8: a.open u.c => +a.z
		8: a.open u.z => +a.z
	`)
}

// P12.1, the last stratum: of each kind, in the plan and deeper, in the order as
// written, up ahead of down.
func TestTurns(t *testing.T) {
	m := of(stage("s"), task("a").in("s"), hear("l").in("s"), mile("b"), timer("w", 1))
	holdRules(t, "turns", m, "8", `
		8: p.x => +p.gone -p.ready -p.open
		8: p.c => +p.done -p.open
		8: s.z => +s.gone -s.ready -s.open
		8: s.x => +s.gone -s.ready -s.open
		8: s.s -s.z => +s.open -s.ready
		8: s.c -s.z => +s.done -s.open
		8: s.n -p.x => +s.ready
		8: a.z => +a.gone -a.ready -a.open
		8: a.x => +a.gone -a.ready -a.open
		8: a.s -a.z => +a.open -a.ready
		8: a.c -a.z => +a.done -a.open
		8: a.n -s.x -s.z => +a.ready
		8: l.z => +l.gone -l.ready -l.open
		8: l.x => +l.gone -l.ready -l.open
		8: l.s -l.z => +l.done -l.ready
		8: l.n -s.x -s.z => +l.ready
		8: b.z => +b.gone -b.ready -b.open
		8: b.x => +b.gone -b.ready -b.open
		8: b.s -b.z => +b.done -b.ready
		8: b.n -p.x => +b.ready
		8: w.z => +w.gone -w.ready -w.open
		8: w.x => +w.gone -w.ready -w.open
		8: w.s -w.z => +w.done -w.ready
		8: w.n -p.x => +w.ready
	`)
}

// P12.1, the last stratum: each event marked, of the plan, of what is in it and
// of what is deeper, behind all items' rules, in the order of the marks.
func TestMarks(t *testing.T) {
	m := of(
		task("a").enter(wait(on("s", api.Create), on("s", api.Start), on("s", api.Complete)), wait(on("s", api.Exit), on("p", api.Exit), on("p", api.Complete))).
			leave(wait(on("p", api.Start), on("a", api.Exit), on("p", api.Create))),
		stage("s"),
		task("b").in("s").leave(wait(on("b", api.Create), on("b", api.Start)), wait(on("b", api.Complete), on("b", api.Exit))),
		hear("l").in("s").leave(wait(on("l", api.Occur), on("w", api.Occur), on("w", api.Exit))),
		timer("w", 1).leave(wait(on("l", api.Create), on("m", api.Occur))),
		mile("m").in("p").enter(wait(on("m", api.Create)), cond(when("f", "=", 0)), wait(on("l", api.Exit), on("w", api.Create))),
	)
	var marks []string
	for _, s := range shown(m, hold(t, m)) {
		if strings.HasPrefix(s, "8:") {
			marks = append(marks, s)
		}
	}
	marks = marks[slices.Index(marks, "8: m.n -p.x => +m.ready")+1:]
	want := []string{
		"8: s.n -p.x => +a<0.0", "8: s.s -s.z => +a<0.1", "8: s.c -s.z => +a<0.2",
		"8: s.x => +a<1.0", "8: s.z => +a<1.0", "8: p.x => +a<1.1", "8: p.c => +a<1.2",
		"8: a.x => +a>0.1", "8: a.z => +a>0.1",
		"8: b.n -s.x -s.z => +b>0.0", "8: b.s -b.z => +b>0.1", "8: b.c -b.z => +b>1.0", "8: b.x => +b>1.1", "8: b.z => +b>1.1",
		"8: l.s -l.z => +l>0.0", "8: w.s -w.z => +l>0.1", "8: w.x => +l>0.2", "8: w.z => +l>0.2",
		"8: l.n -s.x -s.z => +w>0.0", "8: m.s -m.z => +w>0.1",
		"8: m.n -p.x => +m<0.0", "8: l.x => +m<2.0", "8: l.z => +m<2.0", "8: w.n -p.x => +m<2.1",
	}
	if !slices.Equal(marks, want) {
		t.Errorf("%q, not %q", marks, want)
	}
}

// P12.1: a user's events, of each kind, in their order; what Timers count.
func TestUsersAndCounters(t *testing.T) {
	m := of(timer("w", 100), stage("s"), task("a").in("s"), timer("v", 1).in("s"), mile("b"), hear("l"))
	p := hold(t, m)
	want := []string{
		"w 5: w.ready => w.x", "w 5: w.open => w.x",
		"s 5: s.ready => s.x", "s 5: s.open => s.x",
		"a 3: a.open => a.c", "a 5: a.ready => a.x", "a 5: a.open => a.x",
		"v 5: v.ready => v.x", "v 5: v.open => v.x",
		"b 5: b.ready => b.x", "b 5: b.open => b.x",
		"l 4: l.ready => l.s", "l 5: l.ready => l.x", "l 5: l.open => l.x",
	}
	if got := users(m, p); !slices.Equal(got, want) {
		t.Errorf("%q, not %q", got, want)
	}
	// w is the item 1, v the item 4: their s is the second behind L = 28.
	if !slices.Equal(p.Counters, []api.Counter{{While: 4, Limit: 100, Then: 28 + 6 + 1}, {While: 16, Limit: 1, Then: 28 + 24 + 1}}) {
		t.Error(p.Counters)
	}
}

// P12.1: as deep as may be, and as many strata.
func TestDepths(t *testing.T) {
	var items []built
	parent := "p"
	for d := 0; d <= api.MaxStages; d++ {
		m := of(items...)
		p := hold(t, m)
		if last := p.Rules[len(p.Rules)-1].Stratum; last != 6+d || p.From != 6 {
			t.Error(d, last, p.From)
		}
		for n := 1; n <= 5+d; n++ {
			// Only a stratum of Exit, of which there is none here, and of the plan alone what needs a Kid, have no rule.
			some := slices.ContainsFunc(p.Rules, func(r api.Rule) bool { return r.Stratum == n })
			if some != (n != 2 && (d > 0 || n == 5)) {
				t.Error(d, n, some)
			}
		}
		id := "s" + strconv.Itoa(d)
		items = append(items, stage(id).in(parent))
		parent = id
	}
	// What is less deep stands behind what is deeper.
	hold(t, of(stage("a"), stage("b").in("a"), task("c").in("b"), task("d").in("a"), task("e"), stage("f"), task("g").in("f")))
}

// most is a model with as much of all as may be.
func most() api.Model {
	m := api.Model{Files: []string{"a", "b", "c", "d", "e", "f"}, Items: []api.Item{{ID: "p", Kind: api.Stage}}}
	parent := "p"
	for i := 1; i < api.MaxItems; i++ {
		x := api.Item{ID: "x" + strconv.Itoa(i), Kind: api.Task, Parent: parent, Required: true}
		if i < api.MaxStages {
			x.Kind = api.Stage
			parent = x.ID
		}
		for range api.MaxSentries {
			s := api.Sentry{On: []api.On{on("x1", api.Exit), on("x2", api.Exit), on("x15", api.Exit)}, If: []api.Cond{when("a", "<", 1), when("f", ">=", -api.MaxN)}}
			x.Entry, x.Exit = append(x.Entry, s), append(x.Exit, s)
		}
		m.Items = append(m.Items, x)
	}
	return m
}

// P12.1, P12.3: the greatest program there is of a model may be.
func TestMost(t *testing.T) {
	p := hold(t, most())
	if p.Flags != 64+270+96+90 || p.Lasting != 334 || len(p.Rules) < 1000 {
		t.Error(p.Flags, p.Lasting, len(p.Rules))
	}
}

// P12.1, W3: a model that may not be has no program.
func TestModelsThatMayNotBe(t *testing.T) {
	wrong := []api.Model{{}, {Files: []string{"f"}}, {Items: []api.Item{{}}}, {Items: make([]api.Item, 17)}, {Items: make([]api.Item, 100000)}, of(stage("p")), of(task("a").in("zz")), of(timer("w", 0)), of(hear("l").must()), of(task("a").leave(api.Sentry{}))}
	for i, spoil := range []func(m *api.Model){
		func(m *api.Model) { m.Files[1] = "f" },
		func(m *api.Model) { m.Files[0] = "" },
		func(m *api.Model) { m.Items[0].Kind = api.Task },
		func(m *api.Model) { m.Items[0].Exit = m.Items[1].Exit },
		func(m *api.Model) { m.Items[1].Kind = 0 },
		func(m *api.Model) { m.Items[3].ID = "s" },
		func(m *api.Model) { m.Items[6].Ticks = 101 },
		func(m *api.Model) { m.Items[1].Exit[1].On[0].Event = api.Occur },
		func(m *api.Model) { m.Items[1].Exit[1].On[0].Item = "zz" },
		func(m *api.Model) { m.Items[1].Exit[0].If[0].File = "h" },
		func(m *api.Model) { m.Items[1].Exit[0].If[0].Op = "==" },
		func(m *api.Model) { m.Items[7].Parent = "u" },
		func(m *api.Model) { m.Items[7].ID = strings.Repeat("z", 1<<20) },
	} {
		m := sample()
		spoil(&m)
		if model.Is(m) {
			t.Error(i, "may be")
		}
		wrong = append(wrong, m)
	}
	for i, m := range wrong {
		if p, err := xlate.To(m); err != api.ErrModel || !reflect.DeepEqual(p, api.Program{}) {
			t.Errorf("%d: %v, %+v", i, err, p)
		}
	}
}

// P12.1, W5: nil rows and empty ones are the same.
func TestEmptyRows(t *testing.T) {
	m := sample()
	want, _ := xlate.To(m)
	for i := range m.Items {
		x := &m.Items[i]
		if len(x.Entry) == 0 {
			x.Entry = []api.Sentry{}
		}
		if len(x.Exit) == 0 {
			x.Exit = []api.Sentry{}
		}
		for _, s := range [][]api.Sentry{x.Entry, x.Exit} {
			for k := range s {
				if len(s[k].On) == 0 {
					s[k].On = []api.On{}
				}
				if len(s[k].If) == 0 {
					s[k].If = []api.Cond{}
				}
			}
		}
	}
	if p, err := xlate.To(m); err != api.OK || !rules.Same(p, want) {
		t.Errorf("%v, %+v", err, p)
	}
	if p, err := xlate.To(api.Model{Files: []string{}, Items: []api.Item{{ID: "p", Kind: api.Stage}}}); err != api.OK || p.Flags != 10 {
		t.Errorf("%v, %+v", err, p)
	}
}

// P12.1, P12.3: models of any shape, against the oracle; all that may stand in
// them does.
func TestGrownModels(t *testing.T) {
	depths, events, kinds, sentries := map[int]int{}, map[[2]int]int{}, map[int]int{}, map[int]int{}
	for seed := range 1000 {
		m := grown(rand.New(rand.NewSource(int64(seed))))
		hold(t, m)
		if t.Failed() {
			t.FailNow()
		}
		depths[deepest(m)]++
		for _, x := range m.Items {
			kinds[x.Kind]++
			sentries[len(x.Entry)]++
			sentries[len(x.Exit)]++
			for _, w := range sentriesOf(x) {
				for _, on := range w.On {
					events[[2]int{on.Event, min(depth(m, on.Item), 2)}]++
				}
			}
		}
	}
	if len(depths) != 6 || len(kinds) != 5 || len(sentries) != 4 || len(events) != 14 {
		t.Error(depths, kinds, sentries, events)
	}
}
