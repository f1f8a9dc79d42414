package gsm_test

import (
	"fmt"
	"math"
	"testing"

	"sentry/api"
	"sentry/gsm"
)

// P11.1: the example of the chapter.
func TestExample(t *testing.T) {
	m, err := gsm.New(of(1, 1, rule(1, "-0", "0")))
	if err != api.OK || !m.Up(0) {
		t.Error(ups(m), err)
	}
}

// P11.1: programs of no rule, of one, of many, in one stratum and in several.
func TestOrdinary(t *testing.T) {
	runAll(t,
		play{"nothing", api.Program{From: 1}, "", []step{ok(tick(), "")}},
		play{"no rule", of(5, 3), "", []step{ok(tick(), ""), ok(write("f", 1), "")}},
		play{"no rule, some up", at(of(5, 3), 0, 2), "0 2", []step{ok(tick(), "0 2"), ok(write("g", 1), "0 2")}},
		play{"a rule that asks nothing", of(2, 2, rule(7, "", "1")), "1", nil},
		play{"a rule that puts down what is", at(of(2, 2, rule(20, "", "-1")), 0, 1), "0", nil},
		play{"a rule that does not hold", of(2, 2, rule(1, "1", "0")), "", nil},
		play{"all of If must hold", at(of(4, 4, rule(1, "0 1 -2", "3"), rule(1, "0 2", "3"), rule(1, "2 0", "3"), rule(1, "-1 0", "3"), rule(1, "0 -1", "3")), 0, 1), "0 1 3", nil},
		play{"none of If but one holds", at(of(4, 4, rule(1, "0 2", "3"), rule(1, "2 0", "3"), rule(1, "-1 0", "3"), rule(1, "0 -1", "3"), rule(1, "0 -0", "3"), rule(1, "-0 0", "3")), 0, 1), "0 1", nil},
		play{"all of Then is set", at(of(4, 4, rule(1, "-3", "3 2 -1")), 0, 1), "0 2 3", nil},
		play{"one behind the other", of(4, 4, rule(1, "2", "3"), rule(1, "1", "2"), rule(1, "0", "1"), rule(1, "", "0")), "0 1 2 3", nil},
		play{"two that hold at once", of(3, 3, rule(1, "-0", "0"), rule(1, "-0", "1"), rule(1, "0", "2")), "0 1 2", nil},
		play{"strata 1 and 20", of(2, 1, rule(1, "-0", "1"), rule(20, "1", "0")), "0", nil},
		play{"three strata", of(6, 2, rule(1, "", "2"), rule(2, "2", "3 4"), rule(2, "-2", "5"), rule(9, "3 4 -5", "0"), rule(9, "5", "1")), "0", nil},
	)
}

// P11.1: all rules of a stratum are judged ahead of what any of them sets.
func TestJudgedAtTheBeginning(t *testing.T) {
	runAll(t,
		play{"each puts the other's flag down", at(of(2, 2, rule(1, "0", "-1"), rule(1, "1", "-0")), 0, 1), "", nil},
		play{"each puts the other's flag up", of(3, 3, rule(1, "-0 -1", "0"), rule(1, "-0 -1", "1"), rule(1, "0 -1", "2")), "0 1", nil},
		play{"in a stratum that is not the last", of(5, 2, rule(3, "-0", "2"), rule(3, "-0", "3"), rule(4, "2 3", "0")), "0", nil},
		// The later stratum knows what the one ahead of it set, in the same round.
		play{"the next stratum knows it", of(4, 2, rule(1, "-0", "2"), rule(2, "2", "0"), rule(2, "-2 -0", "1")), "0", nil},
		// What lasts is set in the last stratum, and known ahead of it in the next round alone.
		play{"the next round knows it", of(4, 2, rule(1, "0", "2"), rule(2, "", "0"), rule(2, "0 -2", "-1"), rule(2, "2", "1")), "0 1", nil},
	)
}

// P11.1: what holds is set in the rules' order, and in the order of each Then.
func TestSetInOrder(t *testing.T) {
	runAll(t,
		play{"up, then down", at(of(2, 2, rule(1, "", "0 1"), rule(1, "", "-0")), 0), "1", nil},
		play{"down, then up", of(2, 2, rule(1, "", "-0"), rule(1, "", "1 0")), "0 1", nil},
		play{"up, down and up", of(1, 1, rule(1, "", "0"), rule(1, "", "-0"), rule(1, "", "0")), "0", nil},
		play{"the last one does not hold", of(2, 2, rule(1, "", "0"), rule(1, "1", "-0")), "0", nil},
		play{"within one Then: down", at(of(1, 1, rule(1, "", "-0 0 -0")), 0), "", nil},
		play{"within one Then: up", of(1, 1, rule(1, "", "0 -0 0")), "0", nil},
		play{"across a rule's Then", of(2, 2, rule(1, "", "0 1 -0"), rule(1, "", "-1 0 1 0")), "0 1", nil},
		play{"of a flag that does not last", of(3, 1, rule(1, "", "1 -2"), rule(1, "", "-1 2"), rule(2, "2 -1", "0")), "0", nil},
		play{"of one that another stratum set", of(3, 1, rule(1, "", "1"), rule(2, "", "-1 2"), rule(3, "-1 2", "0")), "0", nil},
	)
}

// P11.1: what does not last is down behind each round, and is not asked of when
// a round turned nothing.
func TestNotLasting(t *testing.T) {
	runAll(t,
		play{"up in each round, down behind it", of(3, 1, rule(1, "", "1 2"), rule(2, "1 2", "0")), "0", nil},
		// Were 3 up still in the second round, 1 would stay down.
		play{"down in the next round", of(4, 2, rule(1, "-0", "3"), rule(2, "3", "0"), rule(2, "0 -3", "1")), "0 1", nil},
		play{"written in the last stratum, read in none", of(3, 1, rule(4, "", "2 0"), rule(4, "", "1 -2")), "0", nil},
		play{"none lasts", of(2, 0, rule(1, "", "0"), rule(2, "0", "1")), "", nil},
		play{"the first that does not last, the last that does", of(3, 2, rule(1, "", "2"), rule(2, "2", "1")), "1", nil},
		play{"all last", of(2, 2, rule(2, "", "1 0")), "0 1", nil},
	)
}

// P11.1: First is up ahead of the first round, and all else down.
func TestFirst(t *testing.T) {
	p := of(5, 4, rule(1, "0 -1 2 -3", "4"), rule(2, "4", "3"))
	runAll(t,
		play{"as the rule asks", at(p, 0, 2), "0 2 3", nil},
		play{"one too few", at(p, 0), "0", nil},
		play{"one too many", at(p, 0, 1, 2), "0 1 2", nil},
		play{"none", at(p), "", nil},
		play{"put down at once", at(of(2, 2, rule(1, "0", "-0 1")), 0), "1", nil},
	)
}

// P11.1: it goes on from stratum 1 on, wherever From is, and though a flag of Over is up.
func TestGoesOnFromOne(t *testing.T) {
	p := of(3, 2, rule(1, "", "2"), rule(5, "2", "0"), rule(5, "0", "1"))
	for _, n := range []int{1, 2, 5, 6, 20} {
		runAll(t, play{fmt.Sprint("From is ", n), from(n, p), "0 1", []step{ok(tick(), "0 1"), ok(write("f", 1), "0 1")}})
	}
	for _, flags := range [][]int{{0}, {1}, {0, 1}} {
		runAll(t, play{fmt.Sprint("Over is ", flags), ends(p, flags...), "0 1", []step{over(tick(), "0 1")}})
	}
}

// chain is rules of one stratum that put flags up one behind the other: from
// flag 0 on, n more, each in a round of its own.
func chain(n int) []api.Rule {
	var row []api.Rule
	for i := range n {
		row = append(row, rule(1, fmt.Sprint(i, " ", -i-1), fmt.Sprint(i+1)))
	}
	return row
}

// P11.1: it comes to rest behind a round that turned nothing, the MaxRounds-th at the latest.
func TestMaxRounds(t *testing.T) {
	for n := range 110 {
		m, err := gsm.New(at(of(n+1, n+1, chain(n)...), 0))
		if n+1 <= api.MaxRounds {
			if err != api.OK || len(m.Flags()) != n+1 || !m.Up(n) {
				t.Errorf("%d rounds: %v", n+1, err)
			}
		} else if err != api.ErrFull || m != nil {
			t.Errorf("%d rounds: %v, %v", n+1, m, err)
		}
	}
}

// P11.1: programs that do not come to rest are refused, whatever is turned.
func TestNoRest(t *testing.T) {
	for name, p := range map[string]api.Program{
		"one flag":                      of(1, 1, rule(1, "-0", "0"), rule(1, "0", "-0")),
		"two that change places":        at(of(2, 2, rule(1, "0 -1", "-0 1"), rule(1, "1 -0", "-1 0")), 0),
		"one of many":                   at(of(9, 8, rule(2, "0 -7", "7"), rule(2, "7", "-7")), 0),
		"three in a ring":               at(of(3, 3, rule(1, "0", "1 -0"), rule(1, "1", "2 -1"), rule(1, "2", "0 -2")), 0),
		"by what does not last":         of(3, 1, rule(1, "-0", "1"), rule(1, "0", "2"), rule(6, "1", "0"), rule(6, "2", "-0")),
		"while the file is as at first": of(1, 1, rule(1, "-0", "0"), rule(1, "0", "-0", cond("f", "=", 0))),
		"though a flag of Over is up":   ends(at(of(2, 2, rule(1, "-1", "1"), rule(1, "1", "-1")), 0), 0),
		"wherever From is":              from(20, of(1, 1, rule(1, "-0", "0"), rule(1, "0", "-0"))),
	} {
		if m, err := gsm.New(p); m != nil || err != api.ErrFull {
			t.Errorf("%s: %v, %v", name, m, err)
		}
		if try(t, p) != nil {
			t.Error(name)
		}
	}
	runAll(t,
		play{"what does not last is no unrest", of(2, 0, rule(1, "", "0"), rule(1, "", "1")), "", nil},
		play{"turned and turned back is no unrest", at(of(2, 2, rule(1, "0", "1"), rule(1, "0", "-1")), 0), "0", nil},
	)
}

// P11.1: a program that may not be: ErrArg, even if it would not come to rest.
func TestMayNotBe(t *testing.T) {
	blink := of(2, 1, rule(1, "-0", "0"), rule(1, "0", "-0"))
	for name, turn := range map[string]func(p *api.Program){
		"more flags than there may be":     func(p *api.Program) { p.Flags = api.MaxFlags + 1 },
		"no flags, huge":                   func(p *api.Program) { p.Flags = math.MinInt },
		"more last than there are":         func(p *api.Program) { p.Lasting = 3 },
		"Lasting below nothing":            func(p *api.Program) { p.Lasting = -1 },
		"First that does not last":         func(p *api.Program) { p.First = []int{1} },
		"First twice":                      func(p *api.Program) { p.First = []int{0, 0} },
		"Over that there is none of":       func(p *api.Program) { p.Over = []int{-1} },
		"From in no stratum":               func(p *api.Program) { p.From = 0 },
		"From beyond all strata":           func(p *api.Program) { p.From = api.MaxStrata + 1 },
		"a File twice":                     func(p *api.Program) { p.Files = []string{"f", "f"} },
		"too many Files":                   func(p *api.Program) { p.Files = []string{"1", "2", "3", "4", "5", "6", "7"} },
		"too many rules":                   func(p *api.Program) { p.Rules = make([]api.Rule, api.MaxRules+1) },
		"a rule without Then":              func(p *api.Program) { p.Rules[0].Then = nil },
		"a rule in no stratum":             func(p *api.Program) { p.Rules[0].Stratum = math.MinInt },
		"rules that fall":                  func(p *api.Program) { p.Rules[0].Stratum = 2 },
		"If of no flag":                    func(p *api.Program) { p.Rules[0].If[0].Flag = math.MaxInt },
		"Then of no flag":                  func(p *api.Program) { p.Rules[1].Then[0].Flag = -1 },
		"Conds of no File":                 func(p *api.Program) { p.Rules[1].Conds = []api.Cond{cond("h", "<", 1)} },
		"Conds of no Op":                   func(p *api.Program) { p.Rules[1].Conds = []api.Cond{cond("f", "==", 1)} },
		"a Counter while what passes":      func(p *api.Program) { p.Counters = []api.Counter{count(1, 1, 1)} },
		"a Counter without Limit":          func(p *api.Program) { p.Counters = []api.Counter{count(0, 0, 1)} },
		"a Counter's Then that lasts":      func(p *api.Program) { p.Counters = []api.Counter{count(0, 1, 0)} },
		"a User while what passes":         func(p *api.Program) { p.Users = []api.User{may("a", 1, "1", 1)} },
		"a User's Then that there is none": func(p *api.Program) { p.Users = []api.User{may("a", 1, "0", 2)} },
		"written where it is read":         func(p *api.Program) { p.Rules = append(p.Rules, rule(1, "1", "1")) },
		"what lasts, ahead of the last":    func(p *api.Program) { p.Rules = append(p.Rules, rule(2, "", "1")) },
	} {
		p := copyOf(blink)
		turn(&p)
		if m, err := gsm.New(p); m != nil || err != api.ErrArg {
			t.Errorf("%s: %v, %v", name, m, err)
		}
	}
	if m, err := gsm.New(api.Program{}); m != nil || err != api.ErrArg {
		t.Errorf("nothing: %v, %v", m, err)
	}
	if m, err := gsm.New(blink); m != nil || err != api.ErrFull {
		t.Errorf("blink: %v, %v", m, err)
	}
}

// so is what each Op says of a number below, at and above N.
var so = map[string][3]bool{"<": {true, false, false}, "<=": {true, true, false}, "=": {false, true, false}, "!=": {true, false, true}, ">=": {false, true, true}, ">": {false, false, true}}

// P11.1: conditions by each Op, of a number that was not written (it is 0) and of one that was.
func TestOps(t *testing.T) {
	for op, want := range so {
		for _, n := range []int{math.MinInt, -api.MaxN - 1, -api.MaxN, -2, -1, 0, 1, 2, api.MaxN, api.MaxN + 1, math.MaxInt} {
			// While it holds 0 is up, else down; and 1, of the other File, is the other way round.
			p := of(2, 2, rule(1, "", "-0"), rule(1, "", "0", cond("g", op, n)), rule(1, "", "1"), rule(1, "", "-1", cond("g", op, n)))
			x := try(t, p)
			for _, number := range []int{0, 7, -1, 1, -2, 2, api.MaxN, -api.MaxN, 0} {
				if number != 7 && x.do(write("g", number)) != api.OK {
					t.Fatal(number)
				}
				// The number of another File does not count.
				if number == 7 && x.do(write("f", number)) != api.OK {
					t.Fatal(number)
				}
				place := 1
				if g := x.m.File("g"); g < n {
					place = 0
				} else if g > n {
					place = 2
				}
				if x.m.Up(0) != want[place] || x.m.Up(1) == want[place] {
					t.Errorf("%d %s %d: %v", x.m.File("g"), op, n, ups(x.m))
				}
			}
		}
	}
}

// P11.1: all of Conds must hold, and all of If beside them.
func TestAllConds(t *testing.T) {
	for _, f := range []int{0, 1} {
		for _, g := range []int{0, 1} {
			for _, flag := range []int{0, 1} {
				first := []int{0}[:flag]
				p := at(of(3, 3, rule(1, "0", "1", cond("f", "=", 1), cond("g", "=", 1)), rule(1, "0", "2", cond("f", ">=", 0), cond("g", ">", 0), cond("f", "<", 1))), first...)
				x := try(t, p)
				x.do(write("f", f))
				x.do(write("g", g))
				if x.m.Up(1) != (f == 1 && g == 1 && flag == 1) || x.m.Up(2) != (f == 0 && g == 1 && flag == 1) {
					t.Errorf("%d, %d, %d: %v", f, g, flag, ups(x.m))
				}
			}
		}
	}
	runAll(t,
		play{"one File asked twice", of(1, 1, rule(1, "", "0", cond("f", ">", -1), cond("f", "<", 1))), "0", nil},
		play{"asked twice, not so", of(1, 1, rule(1, "", "0", cond("f", "<", 0), cond("f", ">=", 0))), "", nil},
	)
}

// W1, P11.1: as many flags and rules as there may be, and rows of any length.
func TestMany(t *testing.T) {
	p := of(api.MaxFlags, api.MaxFlags/2)
	last := fmt.Sprint(api.MaxFlags/2 - 1)
	// Each stratum but the last puts a flag up for the next one, which asks it very often.
	for i := range api.MaxRules {
		stratum := 1 + i*api.MaxStrata/api.MaxRules
		if stratum == api.MaxStrata {
			p.Rules = append(p.Rules, rule(stratum, fmt.Sprint(400+stratum-1), last))
			continue
		}
		r := rule(stratum, "", fmt.Sprint(400+stratum))
		if stratum > 1 {
			r.If = make([]api.Lit, 1000)
			for k := range r.If {
				r.If[k].Flag = 400 + stratum - 1
			}
			r.Conds = make([]api.Cond, 1000)
			for k := range r.Conds {
				r.Conds[k] = cond("g", "<=", k)
			}
		}
		p.Rules = append(p.Rules, r)
	}
	for i := range 200000 {
		p.Users = append(p.Users, may("a", i, "-0", 500))
		p.Counters = append(p.Counters, count(399, 1+i%100, 500))
	}
	p.Users = append(p.Users, may("a", 7, "399", 501))
	p.Rules = append(p.Rules, rule(api.MaxStrata, "500", "1"), rule(api.MaxStrata, "501", "0"))
	p.Rules = p.Rules[2:]
	p.Users[7].While = litsOf("0")
	m, err := gsm.New(p)
	if err != api.OK || ups(m) != last {
		t.Fatal(err, ups(m))
	}
	for _, s := range []step{ok(tick(), "1 "+last), ok(user("a", 9), "1 "+last), early(user("a", 200000), "1 "+last), ok(user("a", 7), "0 1 "+last), ok(user("a", 7), "0 1 "+last), early(user("a", 9), "0 1 "+last), wrong(user("b", 7), "0 1 "+last), ok(write("g", 1), "0 1 "+last)} {
		if err := m.Do(s.act); err != s.err || ups(m) != s.up {
			t.Errorf("%v: %v, up is %q", s.act, err, ups(m))
		}
	}
}
