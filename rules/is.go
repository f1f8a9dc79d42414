package rules

import (
	"slices"

	"sentry/api"
)

// flagsMayBe tells whether there may be so many flags, and those that are
// named for the whole program are such as may be. What is asked behind it
// relies on both numbers.
func flagsMayBe(p api.Program) bool {
	return 0 <= p.Lasting && p.Lasting <= p.Flags && p.Flags <= api.MaxFlags && areLasting(p, p.First) && areLasting(p, p.Over)
}

// areLasting tells whether all are flags that last, rising, none twice.
func areLasting(p api.Program, flags []int) bool {
	for i, flag := range flags {
		if !lasts(p, flag) || i > 0 && flag <= flags[i-1] {
			return false
		}
	}
	return true
}

// lasts tells whether a flag is one that lasts.
func lasts(p api.Program, flag int) bool {
	return 0 <= flag && flag < p.Lasting
}

// passes tells whether a flag is one that does not last.
func passes(p api.Program, flag int) bool {
	return p.Lasting <= flag && flag < p.Flags
}

// isStratum tells whether there is such a stratum.
func isStratum(n int) bool {
	return 1 <= n && n <= api.MaxStrata
}

// filesMayBe tells whether these may be a program's Files.
func filesMayBe(files []string) bool {
	if len(files) > api.MaxFiles {
		return false
	}
	for i, s := range files {
		if slices.Contains(files[:i], s) {
			return false
		}
	}
	return true
}

// rulesMayBe tells whether there may be so many rules, they rise, and each may
// be for itself.
func rulesMayBe(p api.Program) bool {
	if len(p.Rules) > api.MaxRules {
		return false
	}
	ahead := 0
	for _, r := range p.Rules {
		if !isStratum(r.Stratum) || r.Stratum < ahead || !ruleMayBe(p, r) {
			return false
		}
		ahead = r.Stratum
	}
	return true
}

// ruleMayBe tells whether what a rule asks and sets is there.
func ruleMayBe(p api.Program, r api.Rule) bool {
	for _, l := range r.If {
		if !lasts(p, l.Flag) && !passes(p, l.Flag) {
			return false
		}
	}
	for _, c := range r.Conds {
		if !slices.Contains(p.Files, c.File) || !isOp(c.Op) {
			return false
		}
	}
	for _, s := range r.Then {
		if !lasts(p, s.Flag) && !passes(p, s.Flag) {
			return false
		}
	}
	return len(r.Then) > 0
}

// isOp tells whether there is such an Op.
func isOp(op string) bool {
	switch op {
	case "<", "<=", "=", "!=", ">=", ">":
		return true
	}
	return false
}

// countersMayBe tells whether these may be a program's Counters.
func countersMayBe(p api.Program) bool {
	for _, c := range p.Counters {
		if !lasts(p, c.While) || c.Limit < 1 || c.Limit > api.MaxTicks || !passes(p, c.Then) {
			return false
		}
	}
	return true
}

// usersMayBe tells whether these may be a program's Users.
func usersMayBe(p api.Program) bool {
	for _, u := range p.Users {
		for _, l := range u.While {
			if !lasts(p, l.Flag) {
				return false
			}
		}
		if !passes(p, u.Then) {
			return false
		}
	}
	return true
}

// strataMayBe tells whether each flag is written in strata in which it may be:
// one that does not last ahead of all that read it, one that lasts in the
// stratum of the last rule. It relies on rules that may be, each for itself.
func strataMayBe(p api.Program) bool {
	reads := firstReads(p)
	for _, r := range p.Rules {
		for _, s := range r.Then {
			if lasts(p, s.Flag) && r.Stratum != p.Rules[len(p.Rules)-1].Stratum || passes(p, s.Flag) && r.Stratum >= reads[s.Flag] {
				return false
			}
		}
	}
	return true
}

// firstReads is of each flag the stratum in which it is read first; of one
// that is read in none, one behind all that there are.
func firstReads(p api.Program) []int {
	reads := slices.Repeat([]int{api.MaxStrata + 1}, p.Flags)
	for _, r := range p.Rules {
		for _, l := range r.If {
			reads[l.Flag] = min(reads[l.Flag], r.Stratum)
		}
	}
	return reads
}
