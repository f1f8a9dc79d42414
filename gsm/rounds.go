package gsm

import (
	"cmp"
	"slices"

	"sentry/api"
)

// state is how all is behind an act. The next act turns a copy of it, so that
// one that errs leaves nothing to be put back.
type state struct {
	flags   []bool
	numbers []int // of the file, in the program's order
	counts  []int // of ticks, of each Counter
}

// atFirst is how all is ahead of the first round.
func atFirst(p api.Program) state {
	s := state{make([]bool, p.Flags), make([]int, len(p.Files)), make([]int, len(p.Counters))}
	for _, flag := range p.First {
		s.flags[flag] = true
	}
	return s
}

// next is a copy of how all is now.
func (m *Machine) next() state {
	return state{copied(m.now.flags), copied(m.now.numbers), copied(m.now.counts)}
}

// goOn goes through rounds, until one that turns no flag that lasts. It tells
// whether there was one; if not, all stays as it is now.
func (m *Machine) goOn(s state) bool {
	lasting := s.flags[:m.p.lasting]
	for range api.MaxRounds {
		ahead := copied(lasting)
		m.p.round(s, 1)
		if slices.Equal(ahead, lasting) {
			m.now = s
			return true
		}
	}
	return false
}

// round is one from a stratum on.
func (p program) round(s state, from int) {
	for _, x := range p.strata {
		if x.n >= from {
			x.set(s)
		}
	}
	clear(s.flags[p.lasting:])
}

// set has all be set by the rules that hold, which are all judged ahead of it.
func (x stratum) set(s state) {
	var sets []api.Set
	for _, r := range x.rules {
		if r.holds(s) {
			sets = append(sets, r.sets...)
		}
	}
	for _, to := range sets {
		s.flags[to.Flag] = to.Up
	}
}

// holds tells whether all that a rule asks does.
func (r rule) holds(s state) bool {
	return s.hold(r.lits) && !slices.ContainsFunc(r.conds, func(c cond) bool { return !c.holds(s.numbers) })
}

// holds tells whether a condition does, of the file's numbers.
func (c cond) holds(numbers []int) bool {
	switch cmp.Compare(numbers[c.file], c.n) {
	case -1:
		return c.below
	case 0:
		return c.same
	}
	return c.above
}

// hold tells whether all these flags are as they are asked for.
func (s state) hold(lits []api.Lit) bool {
	return !slices.ContainsFunc(lits, func(l api.Lit) bool { return s.flags[l.Flag] == l.Not })
}
