package gsm_test

import (
	"slices"
	"strconv"
	"strings"
	"testing"

	"sentry/api"
	"sentry/gsm"
	"sentry/rules"
)

// tried is a machine beside the told one, of the same program.
type tried struct {
	t *testing.T
	m *gsm.Machine
	o *told
}

// try is a machine of a program that is spoiled as soon as it was handed in.
// It is nil where the program does not come to rest.
func try(t *testing.T, p api.Program) *tried {
	t.Helper()
	if !rules.Is(p) {
		t.Fatalf("%+v may not be", p)
	}
	given := copyOf(p)
	m, err := gsm.New(given)
	spoil(given)
	o, want := newTold(p)
	if err != want || (m != nil) != (want == api.OK) {
		t.Fatalf("%v, %v, not %v: %+v", m, err, want, p)
	}
	if m == nil {
		return nil
	}
	x := &tried{t, m, o}
	x.hold("behind New")
	return x
}

// hold holds all that the machine tells against the told one.
func (x *tried) hold(when any) {
	x.t.Helper()
	m, o := x.m, x.o
	flags := m.Flags()
	if len(flags) != o.p.Flags {
		x.t.Fatalf("%v: %d flags, not %d", when, len(flags), o.p.Flags)
	}
	for flag := -2; flag < o.p.Flags+3; flag++ {
		if got := m.Up(flag); got != o.up[flag] {
			x.t.Errorf("%v: %d is up: %v", when, flag, got)
		}
		if flag >= 0 && flag < o.p.Flags && flags[flag] != o.up[flag] {
			x.t.Errorf("%v: of Flags, %d is up: %v", when, flag, flags[flag])
		}
	}
	for _, file := range append([]string{"", "zz", "F", "f ", "spoiled"}, o.p.Files...) {
		if got := m.File(file); got != o.file[file] {
			x.t.Errorf("%v: %q is %d, not %d", when, file, got, o.file[file])
		}
	}
	if x.t.Failed() {
		x.t.Fatalf("the program is %+v", o.p)
	}
}

// do has an act happen to both.
func (x *tried) do(a api.Act) api.Errno {
	x.t.Helper()
	got, want := x.m.Do(a), x.o.do(a)
	if got != want {
		x.t.Errorf("%v: %v, not %v", a, got, want)
	}
	x.hold(a)
	return got
}

// copyOf is a program in memory of its own.
func copyOf(p api.Program) api.Program {
	p.First, p.Over, p.Files = slices.Clone(p.First), slices.Clone(p.Over), slices.Clone(p.Files)
	p.Rules, p.Counters, p.Users = slices.Clone(p.Rules), slices.Clone(p.Counters), slices.Clone(p.Users)
	for i, r := range p.Rules {
		p.Rules[i] = api.Rule{Stratum: r.Stratum, If: slices.Clone(r.If), Conds: slices.Clone(r.Conds), Then: slices.Clone(r.Then)}
	}
	for i := range p.Users {
		p.Users[i].While = slices.Clone(p.Users[i].While)
	}
	return p
}

// spoil makes another program of one, in its own memory.
func spoil(p api.Program) {
	for i := range p.Files {
		p.Files[i] = "spoiled"
	}
	for _, r := range p.Rules {
		clear(r.If)
		clear(r.Conds)
		clear(r.Then)
	}
	for _, u := range p.Users {
		clear(u.While)
	}
	clear(p.First)
	clear(p.Over)
	clear(p.Rules)
	clear(p.Counters)
	clear(p.Users)
}

// step is an act, what it answers, and what is up behind it.
type step struct {
	act api.Act
	err api.Errno
	up  string
}

// play is a program, what is up behind New, and what happens then.
type play struct {
	name  string
	p     api.Program
	up    string
	steps []step
}

func (p play) run(t *testing.T) {
	t.Helper()
	t.Run(p.name, func(t *testing.T) {
		x := try(t, p.p)
		if x == nil {
			t.Fatal("it does not come to rest")
		}
		if got := ups(x.m); got != p.up {
			t.Fatalf("up is %q, not %q", got, p.up)
		}
		for i, s := range p.steps {
			if err := x.do(s.act); err != s.err || ups(x.m) != s.up {
				t.Fatalf("%d: %v, up is %q, not %v, %q", i, err, ups(x.m), s.err, s.up)
			}
		}
	})
}

func runAll(t *testing.T, plays ...play) {
	t.Helper()
	for _, p := range plays {
		p.run(t)
	}
}

// ups are the flags that are up.
func ups(m *gsm.Machine) string {
	var row []string
	for flag, up := range m.Flags() {
		if up {
			row = append(row, strconv.Itoa(flag))
		}
	}
	return strings.Join(row, " ")
}

// Acts, and what comes of them.
func user(id string, event int) api.Act { return api.Act{Kind: api.ActUser, Item: id, Event: event} }
func write(file string, n int) api.Act  { return api.Act{Kind: api.ActWrite, File: file, N: n} }
func tick() api.Act                     { return api.Act{Kind: api.ActTick} }
func ok(a api.Act, up string) step      { return step{a, api.OK, up} }
func wrong(a api.Act, up string) step   { return step{a, api.ErrArg, up} }
func early(a api.Act, up string) step   { return step{a, api.ErrState, up} }
func over(a api.Act, up string) step    { return step{a, api.ErrOver, up} }
func full(a api.Act, up string) step    { return step{a, api.ErrFull, up} }

// Parts of programs: "0 -1" is flag 0, and flag 1 that is down.
func cond(f, op string, n int) api.Cond { return api.Cond{File: f, Op: op, N: n} }
func count(while, limit, then int) api.Counter {
	return api.Counter{While: while, Limit: limit, Then: then}
}

func may(id string, event int, while string, then int) api.User {
	return api.User{Item: id, Event: event, While: litsOf(while), Then: then}
}

func rule(stratum int, lits, sets string, conds ...api.Cond) api.Rule {
	r := api.Rule{Stratum: stratum, If: litsOf(lits), Conds: conds}
	for _, l := range litsOf(sets) {
		r.Then = append(r.Then, api.Set{Flag: l.Flag, Up: !l.Not})
	}
	return r
}

func litsOf(text string) []api.Lit {
	var row []api.Lit
	for _, s := range strings.Fields(text) {
		flag, err := strconv.Atoi(strings.TrimPrefix(s, "-"))
		if err != nil {
			panic(s)
		}
		row = append(row, api.Lit{Flag: flag, Not: s[0] == '-'})
	}
	return row
}

// of is a program of so many flags, of which the first ones last, with two
// Files and rounds from 1 on; where a test asks for more, it puts it there.
func of(flags, lasting int, rules ...api.Rule) api.Program {
	return api.Program{Flags: flags, Lasting: lasting, From: 1, Files: []string{"f", "g"}, Rules: rules}
}

func at(p api.Program, first ...int) api.Program  { p.First = first; return p }
func ends(p api.Program, over ...int) api.Program { p.Over = over; return p }
func from(n int, p api.Program) api.Program       { p.From = n; return p }
func counting(p api.Program, row ...api.Counter) api.Program {
	p.Counters = row
	return p
}

func heard(p api.Program, row ...api.User) api.Program {
	p.Users = row
	return p
}
