package rules_test

import (
	"math"
	"math/rand"
	"slices"
	"strconv"

	"sentry/api"
)

// The oracle asks all that the chapter says of a program, one after the other,
// with the limits as the numbers that package api gives; of the strata it
// looks at each two rules that name one flag.

// mayBe is what Is must answer.
func mayBe(p api.Program) bool {
	ok := p.Flags >= 0 && p.Flags <= 800 && p.Lasting >= 0 && p.Lasting <= p.Flags
	for _, row := range [][]int{p.First, p.Over} {
		for i, flag := range row {
			ok = ok && between(0, flag, p.Lasting-1)
			for _, other := range row[:i] {
				ok = ok && other < flag
			}
		}
	}
	ok = ok && between(1, p.From, 20) && len(p.Rules) <= 1500 && len(p.Files) <= 6 && distinct(p.Files)
	for i, r := range p.Rules {
		ok = ok && between(1, r.Stratum, 20) && (i == 0 || p.Rules[i-1].Stratum <= r.Stratum) && len(r.Then) >= 1
		for _, flag := range slices.Concat(readBy(r), writtenBy(r)) {
			ok = ok && between(0, flag, p.Flags-1)
		}
		for _, c := range r.Conds {
			ok = ok && slices.Contains(p.Files, c.File) && slices.Contains(allOps, c.Op)
		}
	}
	for _, c := range p.Counters {
		ok = ok && between(0, c.While, p.Lasting-1) && between(1, c.Limit, 100) && between(p.Lasting, c.Then, p.Flags-1)
	}
	for _, u := range p.Users {
		for _, l := range u.While {
			ok = ok && between(0, l.Flag, p.Lasting-1)
		}
		ok = ok && between(p.Lasting, u.Then, p.Flags-1)
	}
	return ok && inStrata(p)
}

// inStrata tells what is asked of the strata in which flags are written.
func inStrata(p api.Program) bool {
	for _, w := range p.Rules {
		for _, flag := range writtenBy(w) {
			if flag < p.Lasting && w.Stratum < p.Rules[len(p.Rules)-1].Stratum {
				return false
			}
			for _, r := range p.Rules {
				if flag >= p.Lasting && slices.Contains(readBy(r), flag) && w.Stratum >= r.Stratum {
					return false
				}
			}
		}
	}
	return true
}

var allOps = []string{"<", "<=", "=", "!=", ">=", ">"}

func between(least, n, most int) bool { return least <= n && n <= most }

func distinct(texts []string) bool {
	seen := map[string]int{}
	for _, s := range texts {
		seen[s]++
	}
	return len(seen) == len(texts)
}

func readBy(r api.Rule) []int {
	var row []int
	for _, l := range r.If {
		row = append(row, l.Flag)
	}
	return row
}

func writtenBy(r api.Rule) []int {
	var row []int
	for _, s := range r.Then {
		row = append(row, s.Flag)
	}
	return row
}

// strataOf is what Reads (by readBy) and Writes (by writtenBy) must answer.
func strataOf(p api.Program, flag int, flags func(api.Rule) []int) []int {
	seen := map[int]int{}
	for _, r := range p.Rules {
		if slices.Contains(flags(r), flag) {
			seen[r.Stratum]++
		}
	}
	var row []int
	for n := range seen {
		row = append(row, n)
	}
	slices.Sort(row)
	return row
}

// oneOf is one of some things.
func oneOf[T any](r *rand.Rand, from ...T) T {
	return from[r.Intn(len(from))]
}

// rising are some of the numbers below n, rising, none twice.
func rising(r *rand.Rand, n int) []int {
	var row []int
	for i := range n {
		if r.Intn(3) == 0 {
			row = append(row, i)
		}
	}
	return row
}

// lits are some that read flags below n.
func lits(r *rand.Rand, n int) []api.Lit {
	var row []api.Lit
	for range r.Intn(4) {
		if n > 0 {
			row = append(row, api.Lit{Flag: r.Intn(n), Not: oneOf(r, true, false)})
		}
	}
	return row
}

// grown is a program that may be: of its flags that do not last, those of the
// lesser numbers are written in lesser strata than those that are read there.
func grown(r *rand.Rand) api.Program {
	p := api.Program{Lasting: r.Intn(5), From: 1 + r.Intn(20), Files: oneOf(r, nil, []string{"f"}, []string{"", "f", "a b"})}
	p.Flags = p.Lasting + r.Intn(8)
	p.First, p.Over = rising(r, p.Lasting), rising(r, p.Lasting)
	stratum := 1 + r.Intn(3)
	low := p.Lasting // the first flag that is not read yet
	for range r.Intn(9) {
		if r.Intn(2) == 0 && stratum < 20 {
			stratum++
			low += r.Intn(p.Flags - low + 1)
		}
		if low < p.Flags {
			p.Rules = append(p.Rules, grownRule(r, p, stratum, low, p.Flags))
		}
	}
	if len(p.Rules) > 0 && p.Lasting > 0 {
		p.Rules = append(p.Rules, grownRule(r, p, stratum, 0, p.Lasting))
		p.Rules[len(p.Rules)-1].If = lits(r, low)
	}
	for range r.Intn(3) {
		if 0 < p.Lasting && p.Lasting < p.Flags {
			p.Counters = append(p.Counters, api.Counter{While: r.Intn(p.Lasting), Limit: 1 + r.Intn(100), Then: p.Lasting + r.Intn(p.Flags-p.Lasting)})
		}
		if p.Lasting < p.Flags {
			p.Users = append(p.Users, api.User{Item: oneOf(r, "a", "b"), Event: r.Intn(6), While: lits(r, p.Lasting), Then: p.Lasting + r.Intn(p.Flags-p.Lasting)})
		}
		p.Notes = append(p.Notes, api.Item{ID: oneOf(r, "a", "b"), Kind: r.Intn(9)})
	}
	return p
}

// grownRule is one that writes flags from low on, below high, and reads those
// below low.
func grownRule(r *rand.Rand, p api.Program, stratum, low, high int) api.Rule {
	rule := api.Rule{Stratum: stratum, If: lits(r, low)}
	for range 1 + r.Intn(3) {
		rule.Then = append(rule.Then, api.Set{Flag: low + r.Intn(high-low), Up: oneOf(r, true, false)})
	}
	for range r.Intn(3) {
		if len(p.Files) > 0 {
			rule.Conds = append(rule.Conds, api.Cond{File: oneOf(r, p.Files...), Op: oneOf(r, allOps...), N: oneOf(r, 0, -7, math.MinInt, math.MaxInt)})
		}
	}
	return rule
}

// near is a number at the edge of what may be, or beyond.
func near(r *rand.Rand, p api.Program) int {
	return oneOf(r, -1, 0, 1, 2, p.Lasting-1, p.Lasting, p.Lasting+1, p.Flags-1, p.Flags, 20, 21, 100, 101, 800, 801, math.MinInt, math.MaxInt)
}

// spoil turns one thing of a program, often into one that may not be.
func spoil(r *rand.Rand, p *api.Program) {
	n := near(r, *p)
	switch r.Intn(10) {
	case 0:
		*oneOf(r, &p.Flags, &p.Lasting, &p.From) = n
	case 1:
		row := oneOf(r, &p.First, &p.Over)
		*row = append(*row, n)
	case 2:
		p.Files = append(p.Files, oneOf(r, "f", "g", "", "h"))
	case 3:
		p.Counters = append(p.Counters, api.Counter{While: oneOf(r, 0, n), Limit: oneOf(r, 1, 100, 0, 101), Then: oneOf(r, p.Lasting, near(r, *p))})
	case 4:
		p.Users = append(p.Users, api.User{Item: "u" + strconv.Itoa(n), While: oneOf(r, nil, []api.Lit{{Flag: n}}), Then: oneOf(r, p.Lasting, near(r, *p))})
	case 5:
		p.Rules = slices.Insert(p.Rules, r.Intn(len(p.Rules)+1), api.Rule{Stratum: 1 + r.Intn(4), If: lits(r, min(p.Flags, 12)), Then: []api.Set{{Flag: r.Intn(12)}}})
	default:
		if len(p.Rules) > 0 {
			spoilRule(r, *p, &p.Rules[r.Intn(len(p.Rules))])
		}
	}
}

func spoilRule(r *rand.Rand, p api.Program, rule *api.Rule) {
	n := near(r, p)
	switch r.Intn(5) {
	case 0:
		rule.Stratum += r.Intn(5) - 2
	case 1:
		rule.If = append(rule.If, api.Lit{Flag: n})
	case 2:
		rule.Conds = append(rule.Conds, api.Cond{File: oneOf(r, "f", "", "zz"), Op: oneOf(r, "<", "!=", ">=", "==", "", "=<")})
	case 3:
		rule.Then = append(rule.Then, api.Set{Flag: n})
	case 4:
		rule.Then = nil
	}
}
