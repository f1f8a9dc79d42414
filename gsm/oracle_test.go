package gsm_test

import (
	"maps"
	"math/rand"
	"slices"

	"sentry/api"
)

// told is a program that goes on as the words tell it: what is up by its
// number, the file by its names, the strata one by one from 1 to 20, and the
// counters by a tale of what was up at each tick.
type told struct {
	p    api.Program
	up   map[int]bool
	file map[string]int
	tale []map[int]bool
	rest int            // how many rounds it went through to come to rest last
	seen map[string]int // how often what must be told apart came to be
}

func newTold(p api.Program) (*told, api.Errno) {
	c := &told{p: p, up: map[int]bool{}, file: map[string]int{}, seen: map[string]int{}}
	for _, flag := range p.First {
		c.up[flag] = true
	}
	if !c.goOn() {
		return nil, api.ErrFull
	}
	return c, api.OK
}

func (c *told) all(lits []api.Lit, up map[int]bool) bool {
	ok := true
	for _, l := range lits {
		ok = ok && up[l.Flag] != l.Not
	}
	return ok
}

func (c *told) asks(r api.Rule, up map[int]bool) bool {
	ok := c.all(r.If, up)
	for _, x := range r.Conds {
		n := c.file[x.File]
		so, there := map[string]bool{"<": n < x.N, "<=": n <= x.N, "=": n == x.N, "!=": n != x.N, ">=": n >= x.N, ">": n > x.N}[x.Op]
		ok = ok && so && there
	}
	return ok
}

func (c *told) round(from int) {
	for stratum := from; stratum <= 20; stratum++ {
		begin, turned := maps.Clone(c.up), map[int]int{}
		for _, r := range c.p.Rules {
			if r.Stratum != stratum {
				continue
			}
			if c.asks(r, begin) != c.asks(r, c.up) {
				c.seen["judged by how it began"]++
			}
			if !c.asks(r, begin) {
				continue
			}
			for _, s := range r.Then {
				if c.up[s.Flag] != s.Up {
					turned[s.Flag]++
				}
				c.up[s.Flag] = s.Up
			}
		}
		for _, n := range turned {
			if n > 1 {
				c.seen["turned and turned back"]++
			}
		}
	}
	for flag := c.p.Lasting; flag < c.p.Flags; flag++ {
		if c.up[flag] {
			c.seen["down behind the round"]++
		}
		c.up[flag] = false
	}
}

func (c *told) lasting() []bool {
	var row []bool
	for flag := range c.p.Lasting {
		row = append(row, c.up[flag])
	}
	return row
}

func (c *told) goOn() bool {
	for c.rest = 1; c.rest <= 100; c.rest++ {
		was := c.lasting()
		c.round(1)
		if slices.Equal(was, c.lasting()) {
			return true
		}
	}
	return false
}

// do has an act happen; what errs is put back from what was written down ahead.
func (c *told) do(a api.Act) api.Errno {
	up, file, ticks := maps.Clone(c.up), maps.Clone(c.file), len(c.tale)
	e := c.try(a)
	if e != api.OK {
		c.up, c.file, c.tale = up, file, c.tale[:ticks]
	}
	name := map[int]string{api.ActUser: "user", api.ActWrite: "write", api.ActTick: "tick"}[a.Kind]
	c.seen[name+": "+e.Error()]++
	if e == api.OK && c.rest > 2 {
		c.seen[name+": several rounds"]++
	}
	return e
}

func (c *told) try(a api.Act) api.Errno {
	if a.Kind != 1 && a.Kind != 2 && a.Kind != 3 {
		return api.ErrArg
	}
	for _, flag := range c.p.Over {
		if c.up[flag] {
			return api.ErrOver
		}
	}
	e := api.OK
	switch a.Kind {
	case api.ActUser:
		e = c.user(a.Item, a.Event)
	case api.ActWrite:
		if !slices.Contains(c.p.Files, a.File) || a.N < -1000000 || a.N > 1000000 {
			return api.ErrArg
		}
		c.file[a.File] = a.N
	case api.ActTick:
		c.tick()
	}
	if e == api.OK && !c.goOn() {
		return api.ErrFull
	}
	return e
}

func (c *told) user(item string, event int) api.Errno {
	of := func(u api.User) bool { return u.Item == item }
	if !slices.ContainsFunc(c.p.Users, of) {
		return api.ErrArg
	}
	for _, u := range c.p.Users {
		if !of(u) || u.Event != event {
			continue
		}
		if !c.all(u.While, c.up) {
			c.seen["a User whose While does not hold"]++
			continue
		}
		c.up[u.Then] = true
		c.round(c.p.From)
		return api.OK
	}
	return api.ErrState
}

// tick has each counter look back at how long its flag has been up.
func (c *told) tick() {
	c.tale = append(c.tale, maps.Clone(c.up))
	due := 0
	for _, x := range c.p.Counters {
		long, broken := 0, false
		for i := len(c.tale) - 1; i >= 0; i-- {
			broken = broken || !c.tale[i][x.While]
			if !broken {
				long++
			}
		}
		if long == x.Limit {
			due++
			c.up[x.Then] = true
			if broken && c.tale[0][x.While] {
				c.seen["due behind a new beginning"]++
			}
		}
	}
	if due > 1 {
		c.seen["two due at once"]++
	}
	if due > 0 {
		c.round(c.p.From)
	}
}

var allOps = []string{"<", "<=", "=", "!=", ">=", ">"}

// oneOf is one of some things.
func oneOf[T any](r *rand.Rand, from ...T) T {
	return from[r.Intn(len(from))]
}

// some are some of the numbers below n, rising.
func some(r *rand.Rand, n, often int) []int {
	var row []int
	for i := range n {
		if r.Intn(10) < often {
			row = append(row, i)
		}
	}
	return row
}

// lits are some of flags below n.
func lits(r *rand.Rand, n int) []api.Lit {
	var row []api.Lit
	for range r.Intn(4) {
		row = append(row, api.Lit{Flag: r.Intn(n), Not: oneOf(r, true, false)})
	}
	return row
}

// grown is a program that may be. Its flags that do not last are written in
// strata of their own, each below those in which it is read; some are read alone.
func grown(r *rand.Rand) api.Program {
	p := api.Program{Lasting: 1 + r.Intn(6), Files: oneOf(r, nil, []string{"f"}, []string{"", "f", "a b"})}
	p.First, p.Over = some(r, p.Lasting, 2), some(r, p.Lasting, r.Intn(2))
	strata := []int{1 + r.Intn(3)}
	for range r.Intn(4) {
		strata = append(strata, min(20, strata[len(strata)-1]+1+r.Intn(5)))
	}
	strata = slices.Compact(strata)
	p.From = oneOf(r, 1, 1, oneOf(r, strata...), strata[len(strata)-1], 1+r.Intn(20))
	without := 2 + r.Intn(2) // flags that no rule writes
	low := p.Lasting + without
	for _, stratum := range strata[:len(strata)-1] {
		high := low + 1 + r.Intn(3)
		for range r.Intn(4) {
			p.Rules = append(p.Rules, grownRule(r, p, stratum, low, low, high))
		}
		low = high
	}
	last := strata[len(strata)-1]
	for range 2 + r.Intn(5) {
		p.Rules = append(p.Rules, grownTurn(r, p, last)...)
		if r.Intn(4) == 0 {
			p.Rules = append(p.Rules, grownRule(r, p, last, low, 0, p.Lasting))
		}
	}
	p.Flags = low
	for range r.Intn(6) {
		p.Counters = append(p.Counters, api.Counter{While: r.Intn(p.Lasting), Limit: oneOf(r, 1, 2, 2, 2, 3, 3, 100), Then: p.Lasting + r.Intn(oneOf(r, without, p.Flags-p.Lasting))})
	}
	for range r.Intn(8) {
		p.Users = append(p.Users, api.User{Item: oneOf(r, "a", "b", ""), Event: r.Intn(2), While: lits(r, p.Lasting), Then: p.Lasting + r.Intn(oneOf(r, without, p.Flags-p.Lasting))})
	}
	return p
}

// grownTurn is rules that have a flag that lasts turn now and then: each time
// that one from without is up, as the file is, or as another one is.
func grownTurn(r *rand.Rand, p api.Program, stratum int) []api.Rule {
	x, y, g := r.Intn(p.Lasting), r.Intn(p.Lasting), p.Lasting+r.Intn(2)
	up, down := []api.Set{{Flag: x, Up: true}}, []api.Set{{Flag: x}}
	switch r.Intn(8) {
	case 0:
		// Without rest, while y is up.
		return []api.Rule{{Stratum: stratum, If: []api.Lit{{Flag: y}, {Flag: x, Not: true}}, Then: up}, {Stratum: stratum, If: []api.Lit{{Flag: x}, {Flag: y}}, Then: down}}
	case 1, 2, 3:
		return []api.Rule{{Stratum: stratum, If: []api.Lit{{Flag: g}, {Flag: x, Not: true}}, Then: up}, {Stratum: stratum, If: []api.Lit{{Flag: x}, {Flag: g}}, Then: down}}
	case 4, 5:
		if len(p.Files) > 0 {
			c := api.Cond{File: oneOf(r, p.Files...), Op: oneOf(r, allOps...), N: r.Intn(3) - 1}
			return []api.Rule{{Stratum: stratum, Then: down}, {Stratum: stratum, Conds: []api.Cond{c}, Then: up}}
		}
	}
	return []api.Rule{{Stratum: stratum, If: []api.Lit{{Flag: y}}, Then: up}, {Stratum: stratum, If: []api.Lit{{Flag: y, Not: true}}, Then: down}}[:1+r.Intn(2)]
}

// grownRule is one that reads flags below most, and writes some from low on, below high.
func grownRule(r *rand.Rand, p api.Program, stratum, most, low, high int) api.Rule {
	rule := api.Rule{Stratum: stratum, If: lits(r, p.Lasting)}
	switch r.Intn(4) {
	case 0:
		rule.If = append(rule.If, api.Lit{Flag: p.Lasting + r.Intn(most-p.Lasting), Not: r.Intn(4) == 0})
	case 1:
		// Mostly one from without.
		rule.If = append(rule.If, api.Lit{Flag: p.Lasting + r.Intn(min(3, most-p.Lasting))})
	}
	for range 1 + r.Intn(2) {
		rule.Then = append(rule.Then, api.Set{Flag: low + r.Intn(high-low), Up: oneOf(r, true, true, false)})
	}
	if r.Intn(10) == 0 {
		rule.Then = append(rule.Then, api.Set{Flag: rule.Then[0].Flag, Up: !rule.Then[0].Up})
	}
	for range r.Intn(3) {
		if len(p.Files) > 0 {
			rule.Conds = append(rule.Conds, api.Cond{File: oneOf(r, p.Files...), Op: oneOf(r, allOps...), N: oneOf(r, 0, 1, -1, 2, -2)})
		}
	}
	return rule
}

// grownAct is an act that mostly may be.
func grownAct(r *rand.Rand, p api.Program) api.Act {
	switch r.Intn(10) {
	case 0, 1, 2, 3:
		return api.Act{Kind: api.ActUser, Item: oneOf(r, "a", "b", ""), Event: oneOf(r, 0, 0, 1, 1, 2)}
	case 4, 5:
		return api.Act{Kind: api.ActWrite, File: oneOf(r, "f", "", "a b"), N: oneOf(r, 0, 1, -1, 2, -2, 3, -3)}
	case 6:
		return api.Act{Kind: r.Intn(6) - 1, Item: oneOf(r, "", "a", "zz"), Event: r.Intn(8) - 1, File: oneOf(r, "f", "", "x1"), N: oneOf(r, 0, api.MaxN, -api.MaxN, api.MaxN+1, -api.MaxN-1)}
	}
	return api.Act{Kind: api.ActTick}
}
