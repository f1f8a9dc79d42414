package xlate_test

import (
	"strconv"
	"strings"
	"testing"

	"sentry/api"
	"sentry/model"
	"sentry/rules"
	"sentry/xlate"
)

// shown is a program's rules, each a text, by the names of flags: stratum, ifs,
// conds, thens. Of a flag that has no name its number is shown.
func shown(m api.Model, p api.Program) []string {
	names := append(lasting(m), passing(m)...)
	name := func(flag int) string {
		if flag >= 0 && flag < len(names) {
			return names[flag]
		}
		return strconv.Itoa(flag)
	}
	var out []string
	for _, r := range p.Rules {
		s := strconv.Itoa(r.Stratum) + ":"
		for _, l := range r.If {
			s += " " + map[bool]string{true: "-"}[l.Not] + name(l.Flag)
		}
		for _, c := range r.Conds {
			s += " " + c.File + c.Op + strconv.Itoa(c.N)
		}
		s += " =>"
		for _, x := range r.Then {
			s += " " + map[bool]string{true: "+", false: "-"}[x.Up] + name(x.Flag)
		}
		out = append(out, s)
	}
	return out
}

// users is a program's Users as texts, by the names of flags.
func users(m api.Model, p api.Program) []string {
	names := append(lasting(m), passing(m)...)
	var out []string
	for _, u := range p.Users {
		s := u.Item + " " + strconv.Itoa(u.Event) + ":"
		for _, l := range u.While {
			s += " " + map[bool]string{true: "-"}[l.Not] + names[l.Flag]
		}
		out = append(out, s+" => "+names[u.Then])
	}
	return out
}

// hold holds To of a model against the oracle, and against what follows.
func hold(t *testing.T, m api.Model) api.Program {
	t.Helper()
	p, err := xlate.To(m)
	want := told(m)
	if err != api.OK {
		t.Fatalf("%v of %+v", err, m)
	}
	if !rules.Is(p) {
		t.Errorf("the program of %+v may not be", m)
	}
	if !rules.Same(p, want) {
		t.Errorf("%+v: %+v, not %+v", m, p, want)
	}
	if back, err := xlate.From(p); err != api.OK || !model.Same(back, m) {
		t.Errorf("back: %v, %+v, not %+v", err, back, m)
	}
	return p
}

// holdRules holds the rules of some strata against lines.
func holdRules(t *testing.T, what string, m api.Model, strata string, lines string) {
	t.Helper()
	if !model.Is(m) {
		t.Fatal(what, "may not be")
	}
	var got, want []string
	for _, s := range shown(m, hold(t, m)) {
		stratum, _, _ := strings.Cut(s, ":")
		if strata == "" || strings.Contains(" "+strata+" ", " "+stratum+" ") {
			got = append(got, s)
		}
	}
	for _, s := range strings.Split(strings.TrimSpace(lines), "\n") {
		if s = strings.TrimSpace(s); s != "" {
			want = append(want, s)
		}
	}
	for i := range max(len(got), len(want)) {
		a, b := "", ""
		if i < len(got) {
			a = got[i]
		}
		if i < len(want) {
			b = want[i]
		}
		if a != b {
			t.Errorf("%s, %d: %q, not %q", what, i, a, b)
		}
	}
}

func on(id string, event int) api.On        { return api.On{Item: id, Event: event} }
func when(f, op string, n int) api.Cond     { return api.Cond{File: f, Op: op, N: n} }
func wait(l ...api.On) api.Sentry           { return api.Sentry{On: l} }
func cond(l ...api.Cond) api.Sentry         { return api.Sentry{If: l} }
func plain(id string, kind int) built       { return built{api.Item{ID: id, Kind: kind}} }
func stage(id string) built                 { return plain(id, api.Stage) }
func task(id string) built                  { return plain(id, api.Task) }
func mile(id string) built                  { return plain(id, api.Milestone) }
func hear(id string) built                  { return plain(id, api.Listener) }
func (b built) in(id string) built          { b.Parent = id; return b }
func (b built) must() built                 { b.Required = true; return b }
func (b built) enter(l ...api.Sentry) built { b.Entry = l; return b }
func (b built) leave(l ...api.Sentry) built { b.Exit = l; return b }

func timer(id string, ticks int) built {
	b := plain(id, api.Timer)
	b.Ticks = ticks
	return b
}

// built is an item that is being built.
type built struct{ api.Item }

// of is a model of a plan p and items, in p if they do not say otherwise, and two Files.
func of(items ...built) api.Model {
	m := api.Model{Files: []string{"f", "g"}, Items: []api.Item{{ID: "p", Kind: api.Stage}}}
	for _, b := range items {
		if b.Parent == "" {
			b.Parent = "p"
		}
		m.Items = append(m.Items, b.Item)
	}
	return m
}

// sample is a model that has all there is.
func sample() api.Model {
	return of(
		stage("s").must().leave(cond(when("f", ">=", 5)), wait(on("p", api.Exit), on("w", api.Occur))),
		stage("u").in("s").enter(wait(on("s", api.Start))),
		task("a").in("u").must().enter(wait(on("a", api.Create), on("s", api.Create), on("p", api.Create))),
		mile("b").in("s").must().enter(
			wait(on("a", api.Complete), on("l", api.Occur), on("u", api.Exit)),
			api.Sentry{On: []api.On{on("w", api.Exit)}, If: []api.Cond{when("g", "!=", -7), when("f", "<", 0)}},
		).leave(wait(on("b", api.Create)), cond(when("g", "=", 2))),
		hear("l").leave(api.Sentry{On: []api.On{on("p", api.Complete), on("p", api.Start)}, If: []api.Cond{when("g", "<=", 1)}}),
		timer("w", 3).leave(cond(when("f", ">", 9))),
		task("z").leave(wait(on("l", api.Exit))),
	)
}
