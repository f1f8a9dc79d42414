package gsm

import (
	"slices"
	"strings"

	"sentry/api"
)

// program is what is kept of one that may be, in memory of its own.
type program struct {
	lasting  int
	over     []int
	from     int
	files    []string
	strata   []stratum // rising
	counters []api.Counter
	users    []api.User
}

// stratum is the rules that are judged at once.
type stratum struct {
	n     int
	rules []rule
}

// rule is one whose conditions know their numbers by place.
type rule struct {
	lits  []api.Lit
	conds []cond
	sets  []api.Set
}

// cond is a condition of the number at a place of the file: whether it holds
// of one that is below n, the same, or above.
type cond struct {
	file               int
	n                  int
	below, same, above bool
}

// kept is what is kept of a program that may be.
func kept(p api.Program) program {
	k := program{lasting: p.Lasting, over: copied(p.Over), from: p.From, strata: strataOf(p), counters: copied(p.Counters)}
	for _, s := range p.Files {
		k.files = append(k.files, strings.Clone(s))
	}
	for _, u := range p.Users {
		u.Item, u.While = strings.Clone(u.Item), copied(u.While)
		k.users = append(k.users, u)
	}
	return k
}

// strataOf is a program's rules by their strata, which rise as the rules do.
func strataOf(p api.Program) []stratum {
	var out []stratum
	for i, r := range p.Rules {
		if i == 0 || r.Stratum != p.Rules[i-1].Stratum {
			out = append(out, stratum{n: r.Stratum})
		}
		last := &out[len(out)-1]
		last.rules = append(last.rules, ruleOf(p.Files, r))
	}
	return out
}

// ruleOf is a rule whose conditions are of these Files.
func ruleOf(files []string, r api.Rule) rule {
	out := rule{lits: copied(r.If), sets: copied(r.Then)}
	for _, c := range r.Conds {
		out.conds = append(out.conds, condOf(files, c))
	}
	return out
}

// condOf is a condition of one of these Files.
func condOf(files []string, c api.Cond) cond {
	return cond{
		file:  slices.Index(files, c.File),
		n:     c.N,
		below: c.Op == "<" || c.Op == "<=" || c.Op == "!=",
		same:  c.Op == "<=" || c.Op == "=" || c.Op == ">=",
		above: c.Op == "!=" || c.Op == ">=" || c.Op == ">",
	}
}

// copied is a row in memory of its own. It is made, not cloned, as a clone may
// have spare room.
func copied[T any](row []T) []T {
	out := make([]T, len(row))
	copy(out, row)
	return out
}
