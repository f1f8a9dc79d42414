package rules_test

import (
	"math"
	"math/rand"
	"slices"
	"strconv"
	"strings"
	"testing"

	"sentry/api"
	"sentry/rules"
)

// sample is a program that has all there is, of each row three at least; it
// may be. Flags 0 to 3 last.
func sample() api.Program {
	return api.Program{
		Flags: 9, Lasting: 4, First: []int{0, 1, 3}, Over: []int{1, 2, 3}, From: 2, Files: []string{"f", "g", "h"},
		Rules: []api.Rule{
			{Stratum: 1, If: []api.Lit{{Flag: 0}, {Flag: 1, Not: true}, {Flag: 3}}, Conds: []api.Cond{{File: "f", Op: "<", N: 1}, {File: "g", Op: ">=", N: -2}, {File: "h", Op: "!=", N: 3}}, Then: []api.Set{{Flag: 4, Up: true}, {Flag: 5}, {Flag: 6, Up: true}}},
			{Stratum: 1, Then: []api.Set{{Flag: 4, Up: true}}},
			{Stratum: 3, If: []api.Lit{{Flag: 4}, {Flag: 2}}, Then: []api.Set{{Flag: 5}, {Flag: 7, Up: true}}},
			{Stratum: 6, If: []api.Lit{{Flag: 7}, {Flag: 8, Not: true}, {Flag: 5}}, Conds: []api.Cond{{File: "f", Op: "=", N: 4}}, Then: []api.Set{{Flag: 1, Up: true}, {Flag: 0}}},
			{Stratum: 6, If: []api.Lit{{Flag: 5, Not: true}, {Flag: 1}}, Then: []api.Set{{Flag: 1}, {Flag: 3, Up: true}}},
		},
		Counters: []api.Counter{{While: 0, Limit: 1, Then: 8}, {While: 3, Limit: 100, Then: 4}, {While: 1, Limit: 7, Then: 5}},
		Users: []api.User{
			{Item: "a", Event: 3, While: []api.Lit{{Flag: 0}, {Flag: 2, Not: true}, {Flag: 3}}, Then: 4},
			{Item: "a", Event: 5, While: []api.Lit{{Flag: 1}}, Then: 8},
			{Item: "b", Event: 3, Then: 6},
		},
		Notes: []api.Item{
			{ID: "plan", Kind: 1},
			{ID: "a", Kind: 2, Parent: "plan", Required: true, Ticks: 5,
				Entry: []api.Sentry{{On: []api.On{{Item: "b", Event: 2}, {Item: "a", Event: 1}, {Item: "a", Event: 5}}, If: []api.Cond{{File: "f", Op: "<", N: 1}, {File: "g", Op: ">", N: 2}, {File: "f", Op: "<", N: 3}}}, {On: []api.On{{Item: "b", Event: 3}}}, {If: []api.Cond{{File: "h", Op: "=", N: 9}}}},
				Exit:  []api.Sentry{{On: []api.On{{Item: "b", Event: 5}}}, {If: []api.Cond{{File: "f", Op: "!=", N: -1}}}}},
			{ID: "b", Kind: 5, Parent: "plan", Ticks: 3},
		},
	}
}

// hold holds Is against what it must answer, and against the oracle.
func hold(t *testing.T, what string, p api.Program, want bool) {
	t.Helper()
	if rules.Is(p) != want {
		t.Errorf("%s: %v, not %v", what, !want, want)
	}
	if mayBe(p) != want {
		t.Errorf("%s: the oracle says %v", what, !want)
	}
}

// edges holds Is with each of these numbers put at a place of the sample: it
// may be with those from least to most, and with no other.
func edges(t *testing.T, what string, least, most int, put func(p *api.Program, n int)) {
	t.Helper()
	numbers := []int{math.MinInt, math.MinInt + 1, -1 << 32, -801, -2, -1, 0, 1, least - 1, least, least + 1, most - 1, most, most + 1, 1000, 1<<32 + least, math.MaxInt - 1, math.MaxInt}
	for _, n := range numbers {
		p := sample()
		put(&p, n)
		hold(t, what+" "+strconv.Itoa(n), p, least <= n && n <= most)
	}
}

// P10.1: the example of the chapter.
func TestExample(t *testing.T) {
	p := api.Program{Flags: 1, From: 1, Rules: []api.Rule{{Stratum: 1, If: []api.Lit{{Flag: 0}}, Then: []api.Set{{Flag: 0}}}, {Stratum: 2, Then: []api.Set{{Flag: 0}}}}}
	hold(t, "read in 1, written in 2", p, false)
	p.Rules = p.Rules[1:]
	hold(t, "read in none, written in 2", p, true)
}

// P10.1: programs of nothing, of one rule and of all there is.
func TestOrdinary(t *testing.T) {
	hold(t, "nothing", api.Program{}, false)
	hold(t, "From alone", api.Program{From: 1}, true)
	hold(t, "the sample", sample(), true)
	one := func(r api.Rule) api.Program {
		return api.Program{Flags: 3, Lasting: 1, From: 20, Files: []string{"f"}, Rules: []api.Rule{r}}
	}
	lasting, passing := []api.Set{{Flag: 0}}, []api.Set{{Flag: 2, Up: true}}
	hold(t, "a rule that asks nothing", one(api.Rule{Stratum: 20, Then: lasting}), true)
	hold(t, "a rule that writes what it reads, which lasts", one(api.Rule{Stratum: 1, If: []api.Lit{{Flag: 0, Not: true}}, Then: lasting}), true)
	hold(t, "a rule that writes what another one reads", one(api.Rule{Stratum: 1, If: []api.Lit{{Flag: 1}}, Then: passing}), true)
	hold(t, "a rule that writes what it reads, which does not last", one(api.Rule{Stratum: 1, If: []api.Lit{{Flag: 2, Not: true}}, Then: passing}), false)
	hold(t, "a flag twice in one rule", one(api.Rule{Stratum: 4, If: []api.Lit{{Flag: 0}, {Flag: 0, Not: true}, {Flag: 0}}, Then: []api.Set{{Flag: 2, Up: true}, {Flag: 2}, {Flag: 2}}}), true)
	hold(t, "no Then", one(api.Rule{Stratum: 1}), false)
	hold(t, "an empty Then", one(api.Rule{Stratum: 1, Then: []api.Set{}}), false)
	for i := range sample().Rules {
		p := sample()
		p.Rules[i].Then = nil
		hold(t, "no Then of rule "+strconv.Itoa(i), p, false)
		p = sample()
		p.Rules[i].Then = p.Rules[i].Then[:0]
		hold(t, "an empty Then of rule "+strconv.Itoa(i), p, false)
		p = sample()
		p.Rules[i].If, p.Rules[i].Conds = nil, []api.Cond{}
		hold(t, "no If of rule "+strconv.Itoa(i), p, true)
	}
}

// P10.1: how many flags there are, how many last, where rounds begin.
func TestNumbers(t *testing.T) {
	edges(t, "Flags", 9, api.MaxFlags, func(p *api.Program, n int) { p.Flags = n })
	edges(t, "From", 1, api.MaxStrata, func(p *api.Program, n int) { p.From = n })
	for _, flags := range []int{math.MinInt, -1, 0, 1, 5, api.MaxFlags, api.MaxFlags + 1, math.MaxInt} {
		for _, lasting := range []int{math.MinInt, -1, 0, 1, flags - 1, flags, flags + 1, math.MaxInt} {
			want := 0 <= lasting && lasting <= flags && flags <= api.MaxFlags
			p := api.Program{Flags: flags, Lasting: lasting, From: 1}
			hold(t, strconv.Itoa(flags)+" flags, lasting "+strconv.Itoa(lasting), p, want)
			p.Rules = []api.Rule{{Stratum: 1, If: []api.Lit{{Flag: 0}}, Then: []api.Set{{Flag: flags - 1}}}}
			hold(t, "with a rule: "+strconv.Itoa(flags)+" flags, lasting "+strconv.Itoa(lasting), p, want && flags > 0 && (flags > 1 || lasting > 0))
		}
	}
}

// P10.1: First and Over, each for itself.
func TestFirstAndOver(t *testing.T) {
	for name, put := range map[string]func(p *api.Program, row []int){
		"First": func(p *api.Program, row []int) { p.First = row },
		"Over":  func(p *api.Program, row []int) { p.Over = row },
	} {
		edges(t, name+" alone", 0, 3, func(p *api.Program, n int) { put(p, []int{n}) })
		edges(t, name+" at the end", 3, 3, func(p *api.Program, n int) { put(p, []int{0, 2, n}) })
		edges(t, name+" ahead", 0, 1, func(p *api.Program, n int) { put(p, []int{n, 2, 3}) })
		edges(t, name+" between", 2, 2, func(p *api.Program, n int) { put(p, []int{0, 1, n, 3}) })
		for _, x := range []struct {
			row  []int
			want bool
		}{
			{nil, true}, {[]int{}, true}, {[]int{0, 1, 2, 3}, true}, {[]int{1, 3}, true}, {[]int{3, 1}, false}, {[]int{1, 1}, false}, {[]int{0, 2, 1}, false}, {[]int{0, 2, 0}, false},
			{[]int{0, 1, 2, 3, 4}, false}, {[]int{0, 1, 2, 3, 3}, false}, {[]int{0, 0, 1}, false}, {[]int{0, 5}, false}, {[]int{-1, 0}, false}, {[]int{3, 2, 1, 0}, false},
		} {
			p := sample()
			put(&p, x.row)
			hold(t, name+" of several", p, x.want)
		}
		p := api.Program{Flags: 3, From: 1}
		hold(t, name+" with none that lasts", p, true)
		put(&p, []int{0})
		hold(t, name+" of none that lasts", p, false)
		p.Lasting = 3
		put(&p, []int{2})
		hold(t, name+" of all that last", p, true)
		all := make([]int, api.MaxFlags)
		for i := range all {
			all[i] = i
		}
		p = api.Program{Flags: api.MaxFlags, Lasting: api.MaxFlags, From: 1}
		put(&p, all)
		hold(t, name+" of all flags", p, true)
		p.Lasting--
		hold(t, name+" of all flags, one of which does not last", p, false)
	}
}

// P10.1: as many Files as may be, none twice; they need be no names.
func TestFiles(t *testing.T) {
	for _, x := range []struct {
		row  []string
		want bool
	}{
		{nil, true}, {[]string{}, true}, {[]string{""}, true}, {[]string{"", ""}, false}, {[]string{"b", "a"}, true}, {[]string{"a", "a"}, false}, {[]string{"a", "A"}, true}, {[]string{"a", "a "}, true},
		{[]string{" ", "\x00", "\xff", "<f/>", "1", strings.Repeat("a", 1000)}, true}, {[]string{"a", "b", "a"}, false}, {[]string{"a", "b", "c", "d", "e", "a"}, false}, {[]string{"a", "b", "c", "d", "e", "e"}, false},
		{[]string{"a", "b", "c", "d", "e", "f"}, true}, {[]string{"a", "b", "c", "d", "e", "f", "g"}, false}, {[]string{"a", "b", "c", "d", "e", "f", "a"}, false},
	} {
		hold(t, strings.Join(x.row, ","), api.Program{From: 1, Files: x.row}, x.want)
	}
	hold(t, "very many", api.Program{From: 1, Files: make([]string, 1<<20)}, false)
}

// P10.1: as many rules as may be, that rise by Stratum.
func TestRuleRows(t *testing.T) {
	many := func(n int, stratum func(i int) int) api.Program {
		p := api.Program{Flags: 1, From: 1}
		for i := range n {
			p.Rules = append(p.Rules, api.Rule{Stratum: stratum(i), Then: []api.Set{{}}})
		}
		return p
	}
	stay := func(int) int { return 7 }
	hold(t, "MaxRules", many(api.MaxRules, stay), true)
	hold(t, "one more", many(api.MaxRules+1, stay), false)
	hold(t, "far more", many(100*api.MaxRules, stay), false)
	hold(t, "MaxRules that rise", many(api.MaxRules, func(i int) int { return 1 + i*api.MaxStrata/api.MaxRules }), true)
	hold(t, "MaxRules, the last of which falls", many(api.MaxRules, func(i int) int { return 7 - i/(api.MaxRules-1) }), false)
	for _, x := range []struct {
		row  []int
		want bool
	}{
		{[]int{1}, true}, {[]int{api.MaxStrata}, true}, {[]int{0}, false}, {[]int{-1}, false}, {[]int{api.MaxStrata + 1}, false}, {[]int{math.MinInt}, false}, {[]int{math.MaxInt}, false},
		{[]int{1, 1}, true}, {[]int{1, 2}, true}, {[]int{2, 1}, false}, {[]int{1, api.MaxStrata}, true}, {[]int{api.MaxStrata, 1}, false}, {[]int{1, 2, 1}, false}, {[]int{1, 3, 2}, false}, {[]int{2, 2, 1}, false}, {[]int{2, 1, 1}, false},
		{[]int{1, 5, 5, 20, 20}, true}, {[]int{0, 1}, false}, {[]int{19, 20, 21}, false}, {[]int{1, 2, 3, 2, 3}, false}, {[]int{2, 1, 2, 3}, false}, {[]int{-3, -2}, false},
	} {
		hold(t, "strata", many(len(x.row), func(i int) int { return x.row[i] }), x.want)
	}
}

// P10.1: flags of If and of Then, at each place.
func TestFlagsOfRules(t *testing.T) {
	for place := range 3 {
		edges(t, "If", 0, 3, func(p *api.Program, n int) { p.Rules[0].If[place].Flag = n })
		edges(t, "If of the last stratum", 0, 8, func(p *api.Program, n int) { p.Rules[3].If[place].Flag = n })
		// Those from 4 on last in no program of the sample, and may be written ahead of all that read them.
		edges(t, "Then", 4, 8, func(p *api.Program, n int) { p.Rules[0].Then[place].Flag = n })
	}
	for place := range 2 {
		// Flags 5, 7 and 8 are read in stratum 6; 4 and 6 are not.
		p := sample()
		for n := -2; n <= 11; n++ {
			p.Rules[4].Then[place].Flag = n
			hold(t, "Then of the last stratum "+strconv.Itoa(n), p, 0 <= n && n <= 3 || n == 6)
		}
		for _, n := range []int{math.MinInt, math.MaxInt, 1 << 32} {
			p.Rules[4].Then[place].Flag = n
			hold(t, "Then of the last stratum "+strconv.Itoa(n), p, false)
		}
	}
	p := api.Program{Flags: 1, Lasting: 1, From: 1, Rules: []api.Rule{{Stratum: 1, If: []api.Lit{{}}, Then: []api.Set{{}}}}}
	hold(t, "the one flag", p, true)
	p.Flags, p.Lasting = 0, 0
	hold(t, "no flag", p, false)
	p.Rules[0].If = nil
	hold(t, "no flag to set", p, false)
}

// P10.1: conditions of Files that there are, by Ops that there are, of any number.
func TestConds(t *testing.T) {
	for place := range 3 {
		for _, op := range slices.Concat(allOps, []string{"", "==", "<>", "=<", "=>", "!", "! =", " <", "< ", "lt", "<<", "<=>", "<\x00", "\xff"}) {
			p := sample()
			p.Rules[0].Conds[place].Op = op
			hold(t, "Op "+op, p, slices.Contains(allOps, op))
		}
		for _, file := range []string{"f", "g", "h", "", "F", "ff", "f ", "i", "\x00"} {
			p := sample()
			p.Rules[0].Conds[place].File = file
			hold(t, "File "+file, p, file == "f" || file == "g" || file == "h")
			p.Files = append(p.Files, "")
			hold(t, "File "+file+" with one without a letter", p, file == "f" || file == "g" || file == "h" || file == "")
		}
		for _, n := range []int{0, 1, -1, api.MaxN, api.MaxN + 1, -api.MaxN - 1, math.MinInt, math.MaxInt} {
			p := sample()
			p.Rules[0].Conds[place].N = n
			hold(t, "N", p, true)
		}
	}
	p := sample()
	p.Rules[2].Conds = slices.Repeat([]api.Cond{{File: "g", Op: "="}}, 9)
	hold(t, "many, and one several times", p, true)
	p.Files = nil
	hold(t, "no Files", p, false)
	for i := range p.Rules {
		p.Rules[i].Conds = nil
	}
	hold(t, "no Files and no Conds", p, true)
}

// P10.1: each field of Counters and of Users, at each place.
func TestCountersAndUsers(t *testing.T) {
	for place := range 3 {
		edges(t, "Counter's While", 0, 3, func(p *api.Program, n int) { p.Counters[place].While = n })
		edges(t, "Counter's Limit", 1, api.MaxTicks, func(p *api.Program, n int) { p.Counters[place].Limit = n })
		edges(t, "Counter's Then", 4, 8, func(p *api.Program, n int) { p.Counters[place].Then = n })
		edges(t, "User's While", 0, 3, func(p *api.Program, n int) { p.Users[0].While[place].Flag = n })
		edges(t, "User's only While", 0, 3, func(p *api.Program, n int) { p.Users[place].While = []api.Lit{{Flag: n, Not: true}} })
		edges(t, "User's Then", 4, 8, func(p *api.Program, n int) { p.Users[place].Then = n })
		for _, n := range []int{math.MinInt, -1, 0, 6, math.MaxInt} {
			p := sample()
			p.Users[place].Event = n
			hold(t, "User's Event", p, true)
			p.Users[place].Item = strings.Repeat("?", n&15)
			hold(t, "User's Item", p, true)
		}
	}
	p := sample()
	p.Counters, p.Users = slices.Repeat(p.Counters, 100), slices.Repeat(p.Users, 100)
	hold(t, "one several times", p, true)
	p.Users[7].While = slices.Repeat([]api.Lit{{Flag: 1}, {Flag: 1, Not: true}}, 100)
	hold(t, "a flag several times", p, true)
	p.Counters, p.Users = nil, []api.User{}
	hold(t, "none", p, true)
	p = api.Program{Flags: 1, Lasting: 1, From: 1, Counters: []api.Counter{{Limit: 1}}}
	hold(t, "a Counter where all flags last", p, false)
	p.Lasting = 0
	hold(t, "a Counter where none lasts", p, false)
	p.Flags, p.Lasting, p.Counters[0].Then = 2, 1, 1
	hold(t, "a Counter", p, true)
	p = api.Program{Flags: 1, Lasting: 1, From: 1, Users: []api.User{{}}}
	hold(t, "a User where all flags last", p, false)
	p.Lasting = 0
	hold(t, "a User where none lasts", p, true)
	p.Users[0].While = []api.Lit{{}}
	hold(t, "a User's While where none lasts", p, false)
}

// P10.1: of Notes nothing is asked.
func TestNotes(t *testing.T) {
	for _, notes := range [][]api.Item{nil, {}, {{}}, {{}, {}}, {{ID: "a b", Kind: -1, Parent: "zz", Ticks: -9, Entry: []api.Sentry{{If: []api.Cond{{File: "zz", Op: "?"}}}}}}, make([]api.Item, 1000)} {
		p := sample()
		p.Notes = notes
		hold(t, "Notes", p, true)
	}
}

// step is a stratum, whether flag 1 is written or read in it.
type step struct {
	stratum int
	writes  bool
}

// stepped is a program of two flags, of which the last one is written and read
// in these strata.
func stepped(lasting int, row ...step) api.Program {
	p := api.Program{Flags: 3, Lasting: lasting, From: 1}
	for _, s := range row {
		r := api.Rule{Stratum: s.stratum, If: []api.Lit{{Flag: 1}}, Then: []api.Set{{Flag: 2}}}
		if s.writes {
			r.If, r.Then = nil, []api.Set{{Flag: 1}}
		}
		p.Rules = append(p.Rules, r)
	}
	return p
}

// P10.1: a flag that does not last is written below all strata that read it.
func TestStrataOfWhatPasses(t *testing.T) {
	w, r := true, false
	for _, x := range []struct {
		row  []step
		want bool
	}{
		{[]step{{1, w}, {2, r}}, true}, {[]step{{1, w}, {20, r}}, true}, {[]step{{1, w}, {1, r}}, false}, {[]step{{1, r}, {1, w}}, false}, {[]step{{1, r}, {2, w}}, false}, {[]step{{20, w}, {20, r}}, false},
		{[]step{{1, w}, {1, w}, {2, w}, {3, r}, {3, r}, {20, r}}, true}, {[]step{{1, w}, {2, r}, {3, w}}, false}, {[]step{{1, w}, {2, r}, {3, w}, {4, r}}, false}, {[]step{{1, w}, {2, w}, {2, r}, {3, r}}, false}, {[]step{{1, r}, {2, w}, {3, r}}, false},
		{[]step{{1, w}, {5, w}}, true}, {[]step{{1, r}, {5, r}}, true}, {[]step{{19, w}, {20, r}, {20, r}}, true}, {[]step{{1, w}, {20, r}, {20, w}}, false}, {[]step{{1, r}, {20, r}, {20, w}}, false},
	} {
		hold(t, "a flag that does not last", stepped(0, x.row...), x.want)
		hold(t, "the first flag that does not last", stepped(1, x.row...), x.want)
	}
	// What is written from without is in no stratum.
	p := stepped(1, step{1, r})
	p.Users, p.Counters = []api.User{{Then: 1}}, []api.Counter{{While: 0, Limit: 1, Then: 1}}
	hold(t, "written from without", p, true)
}

// P10.1: what lasts is written in the stratum of the last rule alone, and read anywhere.
func TestStrataOfWhatLasts(t *testing.T) {
	w, r := true, false
	for _, x := range []struct {
		row  []step
		want bool
	}{
		{[]step{{1, w}}, true}, {[]step{{20, w}, {20, w}}, true}, {[]step{{1, r}, {2, w}}, true}, {[]step{{2, r}, {2, w}}, true}, {[]step{{2, w}, {2, r}}, true}, {[]step{{1, w}, {2, r}}, false}, {[]step{{1, w}, {2, w}}, false},
		{[]step{{1, r}, {2, r}, {3, w}, {3, r}, {3, w}}, true}, {[]step{{19, w}, {20, r}}, false}, {[]step{{1, r}, {20, r}}, true}, {[]step{{1, r}, {2, w}, {3, r}}, false},
	} {
		hold(t, "the last flag that lasts", stepped(2, x.row...), x.want)
	}
	for i := range 3 {
		p := sample()
		p.Rules[i].Then = append(p.Rules[i].Then, api.Set{Flag: 2, Up: true})
		hold(t, "written in another stratum", p, false)
		p.Rules[i].Then = []api.Set{{Flag: 0}}
		hold(t, "the one that is written in another stratum", p, false)
	}
	p := sample()
	p.Rules = append(p.Rules, api.Rule{Stratum: 6, Then: []api.Set{{Flag: 6}}})
	hold(t, "a last rule of the same stratum", p, true)
	p.Rules[5].Stratum = 7
	hold(t, "a last rule of another one", p, false)
	p.Rules[3].Then, p.Rules[4].Then = p.Rules[5].Then, p.Rules[5].Then
	hold(t, "nothing that lasts is written", p, true)
}

// P10.1: grown programs may be; with one thing turned Is says what the oracle says.
func TestGrownPrograms(t *testing.T) {
	r := rand.New(rand.NewSource(101))
	seen := map[bool]int{}
	strata := map[int]int{}
	for i := range 40000 {
		p := grown(r)
		if !rules.Is(p) || !mayBe(p) {
			t.Fatalf("%d: may not be: %+v", i, p)
		}
		if n := len(p.Rules); n > 0 {
			strata[p.Rules[n-1].Stratum-p.Rules[0].Stratum]++
		}
		for range 1 + r.Intn(2) {
			spoil(r, &p)
		}
		want := mayBe(p)
		if rules.Is(p) != want {
			t.Fatalf("%d: %v of %+v", i, !want, p)
		}
		seen[want]++
	}
	if seen[true] < 8000 || seen[false] < 8000 || strata[0] < 1000 || strata[4] < 1000 {
		t.Error(seen, strata)
	}
}

// W1: rows of very many end in time.
func TestVeryMany(t *testing.T) {
	const many = 1 << 20
	p := sample()
	p.Rules[3].If, p.Rules[3].Then = slices.Repeat([]api.Lit{{Flag: 7}}, many), slices.Repeat([]api.Set{{Flag: 1}}, many)
	p.Rules[3].Conds = slices.Repeat([]api.Cond{{File: "h", Op: ">"}}, many)
	p.Counters, p.Users, p.Notes = slices.Repeat(p.Counters, many/8), slices.Repeat(p.Users, many/8), make([]api.Item, many)
	p.Users[5].While = slices.Repeat([]api.Lit{{Flag: 3}}, many)
	if !rules.Is(p) {
		t.Error("it may not be")
	}
	if !rules.Same(p, p) || !slices.Equal(rules.Reads(p, 7), []int{6}) || !slices.Equal(rules.Writes(p, 1), []int{6}) {
		t.Error("not the same")
	}
	p.Users[5].While[many-1].Flag = 4
	if rules.Is(p) {
		t.Error("it may be")
	}
	p = api.Program{Flags: 800, Lasting: 800, From: 1, First: make([]int, many), Rules: make([]api.Rule, many)}
	if rules.Is(p) || len(rules.Reads(p, 0)) != 0 || len(rules.Writes(p, 0)) != 0 {
		t.Error("it may be")
	}
}

// P10.1: programs from bytes.
func FuzzIs(f *testing.F) {
	f.Add([]byte{})
	f.Add([]byte{6, 3, 1, 1, 2, 0, 2, 5, 1, 2, 2, 5, 1, 1, 0, 2, 5, 0, 1, 0, 4, 1, 2, 4, 0, 5})
	f.Add([]byte("a program of some bytes that are none in particular, but many"))
	f.Fuzz(func(t *testing.T, b []byte) {
		p := fromBytes(b)
		if got := rules.Is(p); got != mayBe(p) {
			t.Errorf("%v of %+v", got, p)
		}
		holdStrata(t, p)
		if q := fromBytes(b); !rules.Same(p, q) {
			t.Error("not the same")
		}
	})
}

// fromBytes is a program of small numbers.
func fromBytes(b []byte) api.Program {
	next := func(n int) int {
		if len(b) == 0 {
			return 0
		}
		x := int(b[0])
		b = b[1:]
		return x % n
	}
	p := api.Program{Flags: next(9), Lasting: next(9), From: 1 + next(21), Files: []string{"f", "g"}[:next(3)]}
	for range next(3) {
		p.First = append(p.First, next(6)-1)
	}
	for range next(3) {
		p.Over = append(p.Over, next(6)-1)
	}
	for len(b) > 0 && len(p.Rules) < 2000 {
		switch next(8) {
		case 0:
			p.Counters = append(p.Counters, api.Counter{While: next(9) - 1, Limit: next(110), Then: next(9)})
		case 1:
			p.Users = append(p.Users, api.User{Item: "a", Event: next(6), While: []api.Lit{{Flag: next(10) - 1}}[:next(2)], Then: next(9)})
		default:
			r := api.Rule{Stratum: next(22)}
			for range next(3) {
				r.If = append(r.If, api.Lit{Flag: next(10) - 1, Not: next(2) == 1})
			}
			for range next(3) {
				r.Then = append(r.Then, api.Set{Flag: next(10) - 1, Up: next(2) == 1})
			}
			if next(4) == 1 {
				r.Conds = []api.Cond{{File: []string{"f", "g", "h"}[next(3)], Op: append(slices.Clone(allOps), "?")[next(7)]}}
			}
			p.Rules = append(p.Rules, r)
		}
	}
	return p
}
