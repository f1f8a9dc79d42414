package gsm_test

import (
	"fmt"
	"math"
	"testing"

	"sentry/api"
)

// P11.1: what a user has happen puts the User's Then up for a round from From on; then it goes on.
func TestUser(t *testing.T) {
	p := at(of(6, 4, rule(1, "4", "0 -3"), rule(1, "0 -1", "1"), rule(1, "1 -2", "2"), rule(1, "5", "-0 -1 -2")), 3)
	p = heard(p, may("a", 3, "3", 4), may("a", 5, "2 1 -3", 5), may("", 0, "", 5), may("b", -7, "-0", 4))
	runAll(t,
		play{"one and the other", p, "3", []step{
			early(user("a", 5), "3"), ok(user("a", 3), "0 1 2"), early(user("a", 3), "0 1 2"), early(user("b", -7), "0 1 2"),
			ok(user("a", 5), ""), early(user("a", 5), ""), ok(user("b", -7), "0 1 2"),
		}},
		play{"an Item without a name", p, "3", []step{ok(user("", 0), "3"), ok(user("a", 3), "0 1 2"), ok(user("", 0), "")}},
		play{"any Event that a User has", p, "3", []step{ok(user("b", -7), "0 1 2"), early(user("b", 7), "0 1 2"), early(user("b", 0), "0 1 2")}},
		play{"one that no rule reads", heard(of(2, 1, rule(1, "", "0")), may("a", 1, "", 1)), "0", []step{ok(user("a", 1), "0"), ok(user("a", 1), "0")}},
		play{"what is read as down", heard(of(2, 1, rule(1, "-1", "0"), rule(1, "1", "-0")), may("a", 1, "", 1)), "0", []step{ok(user("a", 1), "0")}},
		play{"what rules write too", heard(of(3, 2, rule(1, "0", "2"), rule(2, "-2", "1"), rule(2, "2", "-1")), may("a", 1, "", 2)), "1", []step{ok(user("a", 1), "1")}},
	)
}

// P11.1: the Item and the Event of an act are those of a User, to the last byte.
func TestUserThatThereIsNoneOf(t *testing.T) {
	long := string(make([]byte, 100000))
	p := heard(of(4, 2, rule(1, "2", "0"), rule(1, "3", "1")), may("a", 3, "-0", 2), may("b", 5, "", 3), may("b", 3, "0 1", 2), may(long, 3, "", 3))
	var steps []step
	for _, item := range []string{"", "A", "a ", "ab", "c", "f", "g", "\xff", long + "x", long[1:]} {
		for _, event := range []int{3, 5, 0, -1, math.MaxInt} {
			steps = append(steps, wrong(user(item, event), ""))
		}
	}
	for _, event := range []int{5, 0, 1, 2, 4, 6, -3, 3 + 1<<32, math.MinInt, math.MaxInt} {
		steps = append(steps, early(user("a", event), ""))
	}
	steps = append(steps, early(user("b", 4), ""), early(user("b", 3), ""), early(user(long, 5), ""))
	steps = append(steps, ok(user(long, 3), "1"), ok(user("a", 3), "0 1"), early(user("a", 3), "0 1"), ok(user("b", 3), "0 1"), ok(user("b", 5), "0 1"))
	runAll(t,
		play{"some Users", p, "", steps},
		play{"no User", of(2, 1), "", []step{wrong(user("a", 3), ""), wrong(user("", 0), "")}},
		// What else an act tells does not count.
		play{"an act that tells more", p, "", []step{ok(api.Act{Kind: api.ActUser, Item: "b", Event: 5, File: "zz", N: math.MaxInt}, "1"), ok(api.Act{Kind: api.ActTick, Item: "b", Event: 5, File: "f", N: 4}, "1"), ok(api.Act{Kind: api.ActWrite, Item: "a", Event: 3, File: "f"}, "1")}},
	)
}

// P11.1: of several Users of one Item and Event the first one whose While holds counts, and no other.
func TestSeveralUsers(t *testing.T) {
	users := []api.User{may("a", 1, "0", 4), may("a", 2, "", 7), may("b", 1, "", 7), may("a", 1, "1 -2", 5), may("a", 1, "1", 6)}
	for _, x := range []struct {
		first []int
		err   api.Errno
		up    string
	}{
		{nil, api.ErrState, ""},
		{[]int{0}, api.OK, "0 3"},
		{[]int{0, 1}, api.OK, "0 1 3"},
		{[]int{1}, api.OK, "1 2"},
		{[]int{1, 2}, api.OK, "1 2 3"},
		{[]int{2}, api.ErrState, "2"},
		{[]int{0, 1, 2}, api.OK, "0 1 2 3"},
	} {
		// Each User's Then is told by what else goes up: 4 by 3, 5 by 2, 6 by 3.
		p := at(of(8, 4, rule(2, "4 -5 -6 -7", "3"), rule(2, "5 -4 -6 -7", "2"), rule(2, "6 -4 -5 -7", "3"), rule(2, "7", "-0 -1 -2")), x.first...)
		up := ups(try(t, p).m)
		runAll(t, play{fmt.Sprint(x.first), heard(p, users...), up, []step{{user("a", 1), x.err, x.up}}})
	}
}

// P11.1: all of a User's While must hold.
func TestWhile(t *testing.T) {
	for _, x := range []struct {
		while string
		holds bool
	}{{"", true}, {"0", true}, {"-1", true}, {"0 -1", true}, {"-1 0 0", true}, {"0 1", false}, {"-0", false}, {"-0 -1", false}, {"1", false}, {"0 -1 1", false}, {"-0 0", false}, {"0 -0", false}} {
		p := heard(at(of(4, 3, rule(1, "3", "2")), 0), may("a", 1, x.while, 3))
		s := early(user("a", 1), "0")
		if x.holds {
			s = ok(user("a", 1), "0 2")
		}
		runAll(t, play{"while " + x.while, p, "0", []step{s}})
	}
}

// P11.1: no rule ahead of From is asked in a round from without; in those behind it all are.
func TestFrom(t *testing.T) {
	// 2 is the user's, 3 the counter's. 4 tells that stratum 2 was asked, 5 that 4 was.
	p := of(6, 2, rule(2, "", "4"), rule(4, "", "5"), rule(6, "2 4", "0"), rule(6, "3 4", "0"), rule(6, "2 5", "1"), rule(6, "3 5", "1"))
	p = counting(heard(p, may("a", 1, "", 2), may("b", 1, "-0", 2)), count(0, 1, 3), count(1, 1, 3))
	for n, up := range []string{1: "0 1", 2: "0 1", 3: "1", 4: "1", 5: "", 6: "", 7: "", 20: ""} {
		if n == 0 || n > 7 && n < 20 {
			continue
		}
		runAll(t, play{fmt.Sprint("From is ", n), from(n, p), "", []step{ok(tick(), ""), ok(write("f", 1), ""), ok(user("a", 1), up)}})
	}
	// The same by a counter, which counts while 0, put up by the file, is up.
	p = of(6, 3, rule(2, "", "4"), rule(4, "", "5"), rule(6, "", "0", cond("f", "=", 1)), rule(6, "3 4", "1"), rule(6, "3 5", "2"))
	p = counting(p, count(0, 2, 3))
	for n, up := range []string{1: "0 1 2", 2: "0 1 2", 3: "0 2", 4: "0 2", 5: "0", 6: "0", 7: "0"} {
		if n > 0 {
			runAll(t, play{fmt.Sprint("by a counter, From is ", n), from(n, p), "", []step{ok(tick(), ""), ok(write("f", 1), "0"), ok(tick(), "0"), ok(tick(), up), ok(tick(), up)}})
		}
	}
	// A tick at which none comes to its limit, and a write, have no such round.
	p = counting(from(2, of(3, 2, rule(1, "", "2"), rule(2, "-2", "1"))), count(0, 2, 2))
	runAll(t,
		play{"no round from without", p, "", []step{ok(tick(), ""), ok(write("f", 3), ""), ok(tick(), "")}},
		play{"nor while one counts", at(p, 0), "0", []step{ok(tick(), "0"), ok(write("f", 3), "0"), ok(tick(), "0"), ok(tick(), "0")}},
		play{"nor by a User that may not", heard(p, may("a", 1, "0", 2)), "", []step{early(user("a", 1), ""), wrong(user("b", 1), "")}},
		play{"a round in which 2 is up from without", counting(from(2, at(of(4, 2, rule(1, "", "2"), rule(2, "-2", "1")), 0)), count(0, 2, 3)), "0", []step{ok(tick(), "0"), ok(tick(), "0 1")}},
	)
	// In the round from From on it is judged stratum by stratum too, and what does not last is down behind it.
	p = heard(from(3, of(5, 3, rule(3, "3", "4"), rule(5, "4", "0"), rule(5, "3 -4", "1"), rule(5, "0 4", "1"), rule(5, "0 3", "2"))), may("a", 1, "", 3))
	runAll(t, play{"stratum by stratum", p, "", []step{ok(user("a", 1), "0"), ok(user("a", 1), "0 1 2")}})
}

// P11.1: it goes on behind the round from From on, at most MaxRounds rounds, which that one is none of.
func TestRoundsBehindFrom(t *testing.T) {
	for n := 90; n < 105; n++ {
		quiet := of(n+2, n+1, chain(n)...)
		quiet.Rules = append(quiet.Rules, rule(1, fmt.Sprint(n+1), "0"))
		want := step{user("a", 1), api.OK, ""}
		if n+1 > api.MaxRounds {
			want.err = api.ErrFull
		}
		x := try(t, heard(quiet, may("a", 1, "", n+1)))
		if err := x.do(user("a", 1)); err != want.err || x.m.Up(n) != (err == api.OK) || x.m.Up(0) != (err == api.OK) {
			t.Errorf("a user, %d: %v", n, err)
		}
		// A counter that counts while flag n + 1 is up.
		p := at(of(n+3, n+2, chain(n)...), n+1)
		p.Rules = append(p.Rules, rule(1, fmt.Sprint(n+2), "0"))
		x = try(t, counting(p, count(n+1, 2, n+2)))
		if err := x.do(tick()); err != api.OK || x.m.Up(0) {
			t.Errorf("a tick ahead, %d: %v", n, err)
		}
		for range 3 {
			if err := x.do(tick()); err != want.err || x.m.Up(n) != (err == api.OK) || x.m.Up(0) != (err == api.OK) {
				t.Errorf("a tick, %d: %v", n, err)
			}
		}
		// A number has the first round of those that are counted turn flag 0.
		p = of(n+1, n+1, append(chain(n), rule(1, "", "0", cond("f", "=", 1)))...)
		x = try(t, p)
		full := n+2 > api.MaxRounds
		if err := x.do(write("f", 1)); (err == api.ErrFull) != full || x.m.Up(n) == full || x.m.Up(0) == full || x.m.File("f") == 1 == full {
			t.Errorf("a write, %d: %v", n, err)
		}
	}
}

// P11.1: a number is written where there is such a File and it is -MaxN to MaxN.
func TestWrite(t *testing.T) {
	x := try(t, of(2, 2, rule(1, "", "-0"), rule(1, "", "0", cond("f", ">", 3)), rule(1, "0", "1")))
	for _, file := range []string{"f", "g"} {
		for _, n := range []int{0, 1, -1, 4, 3, api.MaxN, -api.MaxN, api.MaxN - 1, 1 - api.MaxN, 5, 5} {
			if err := x.do(write(file, n)); err != api.OK || x.m.File(file) != n {
				t.Errorf("%q, %d: %v, %d", file, n, err, x.m.File(file))
			}
			for _, wrong := range []int{api.MaxN + 1, -api.MaxN - 1, math.MaxInt, math.MinInt, 1 << 32, -1 << 32, math.MaxInt32, math.MinInt32} {
				if err := x.do(write(file, wrong)); err != api.ErrArg || x.m.File(file) != n {
					t.Errorf("%q, %d: %v, %d", file, wrong, err, x.m.File(file))
				}
			}
		}
	}
	for _, none := range []string{"", "F", "h", "f ", "ff", "\xff", "a"} {
		for _, n := range []int{0, 4, api.MaxN + 1} {
			if err := x.do(write(none, n)); err != api.ErrArg || x.m.File(none) != 0 {
				t.Errorf("%q: %v, %d", none, err, x.m.File(none))
			}
		}
	}
	p := of(1, 1)
	p.Files = nil
	if err := try(t, p).do(write("", 0)); err != api.ErrArg {
		t.Error("no File:", err)
	}
	p.Files = []string{"", "a b", "\xff\x00"}
	x = try(t, p)
	for i, file := range p.Files {
		if err := x.do(write(file, i+1)); err != api.OK || x.m.File(file) != i+1 {
			t.Errorf("%q: %v", file, err)
		}
	}
	if x.m.File("") != 1 || x.m.File("a b") != 2 {
		t.Error("one number is written over by another File's")
	}
}

// P11.1: behind a write it goes on, with the file as it is then.
func TestWriteGoesOn(t *testing.T) {
	p := of(4, 3, rule(1, "", "3", cond("f", ">=", 2)), rule(4, "3", "0"), rule(4, "0", "1"), rule(4, "1", "2"), rule(4, "-3", "-0"))
	runAll(t, play{"rounds", p, "", []step{
		ok(write("g", 2), ""), ok(write("f", 1), ""), ok(write("f", 2), "0 1 2"), ok(write("f", 2), "0 1 2"), ok(write("f", 1), "1 2"), ok(write("f", 9), "0 1 2"),
	}})
}

// P11.1: a Counter counts the ticks while its flag is up, and puts Then up as it comes to Limit, once.
func TestCounters(t *testing.T) {
	// 0 is as f is 1; 3 turns 1 up, and, if it is up, down; 4 turns 2 so.
	p := of(5, 3, rule(1, "", "-0"), rule(1, "", "0", cond("f", "=", 1)), rule(1, "3 -1", "1"), rule(1, "3 1", "-1"), rule(1, "4 -2", "2"), rule(1, "4 2", "-2"))
	on, off := write("f", 1), write("f", 0)
	runAll(t,
		play{"while its flag is down", counting(p, count(0, 1, 3)), "", []step{ok(tick(), ""), ok(tick(), ""), ok(tick(), "")}},
		play{"Limit 1", counting(p, count(0, 1, 3)), "", []step{ok(on, "0"), ok(tick(), "0 1"), ok(tick(), "0 1"), ok(tick(), "0 1")}},
		play{"Limit 3", counting(p, count(0, 3, 3)), "", []step{ok(tick(), ""), ok(on, "0"), ok(tick(), "0"), ok(tick(), "0"), ok(tick(), "0 1"), ok(tick(), "0 1"), ok(tick(), "0 1"), ok(tick(), "0 1")}},
		play{"down ahead of its limit", counting(p, count(0, 2, 3)), "", []step{ok(on, "0"), ok(tick(), "0"), ok(off, ""), ok(tick(), ""), ok(on, "0"), ok(tick(), "0"), ok(tick(), "0 1")}},
		play{"down at its limit", counting(p, count(0, 2, 3)), "", []step{ok(on, "0"), ok(tick(), "0"), ok(off, ""), ok(tick(), ""), ok(tick(), ""), ok(tick(), "")}},
		// It is asked at ticks alone: between two of them its flag may have been down.
		play{"down between two ticks", counting(p, count(0, 2, 3)), "", []step{ok(on, "0"), ok(tick(), "0"), ok(off, ""), ok(on, "0"), ok(tick(), "0 1")}},
		play{"once more behind its limit", counting(p, count(0, 2, 3)), "", []step{ok(on, "0"), ok(tick(), "0"), ok(tick(), "0 1"), ok(tick(), "0 1"), ok(off, "1"), ok(tick(), "1"), ok(on, "0 1"), ok(tick(), "0 1"), ok(tick(), "0"), ok(tick(), "0")}},
		play{"two in one tick", counting(p, count(0, 2, 3), count(0, 2, 4)), "", []step{ok(on, "0"), ok(tick(), "0"), ok(tick(), "0 1 2"), ok(tick(), "0 1 2")}},
		play{"two in one tick, of two limits", counting(p, count(0, 3, 4), count(1, 2, 4), count(0, 1, 3)), "", []step{ok(on, "0"), ok(tick(), "0 1"), ok(tick(), "0 1"), ok(tick(), "0 1 2"), ok(tick(), "0 1 2")}},
		// Both put the one flag up, which is up once.
		play{"two in one tick, of one Then", counting(p, count(0, 2, 3), count(0, 2, 3)), "", []step{ok(on, "0"), ok(tick(), "0"), ok(tick(), "0 1"), ok(tick(), "0 1")}},
		play{"two of one Then, of two limits", counting(p, count(0, 2, 3), count(0, 3, 3)), "", []step{ok(on, "0"), ok(tick(), "0"), ok(tick(), "0 1"), ok(tick(), "0"), ok(tick(), "0")}},
		// The one's flag is what the other one puts up: it counts from the next tick on.
		play{"one behind the other", counting(p, count(0, 1, 3), count(1, 1, 4)), "", []step{ok(on, "0"), ok(tick(), "0 1"), ok(tick(), "0 1 2"), ok(tick(), "0 1 2")}},
		play{"one behind the other, the other way round", counting(p, count(1, 1, 4), count(0, 1, 3)), "", []step{ok(on, "0"), ok(tick(), "0 1"), ok(tick(), "0 1 2"), ok(tick(), "0 1 2")}},
		play{"one that is down beside one that is up", counting(p, count(2, 1, 3), count(0, 1, 4)), "", []step{ok(on, "0"), ok(tick(), "0 2"), ok(tick(), "0 1 2"), ok(tick(), "0 1 2")}},
		play{"no counter", p, "", []step{ok(on, "0"), ok(tick(), "0")}},
		// Other acts are no ticks.
		play{"acts that are no ticks", heard(counting(p, count(0, 2, 3)), may("a", 1, "", 4)), "", []step{ok(on, "0"), ok(user("a", 1), "0 2"), ok(tick(), "0 2"), ok(on, "0 2"), ok(user("a", 1), "0"), early(user("a", 2), "0"), ok(tick(), "0 1")}},
	)
}

// P11.1: the greatest Limit, and very many ticks behind it.
func TestLongCounters(t *testing.T) {
	x := try(t, counting(at(of(3, 2, rule(1, "2 -1", "1"), rule(1, "2 1", "-1")), 0), count(0, api.MaxTicks, 2)))
	for n := 1; n <= 1000; n++ {
		if err := x.m.Do(tick()); err != api.OK || x.m.Up(1) != (n >= api.MaxTicks) {
			t.Fatalf("tick %d: %v, %v", n, err, ups(x.m))
		}
	}
}

// P11.1: once a flag of Over is up, nothing happens any more.
func TestOver(t *testing.T) {
	p := heard(counting(of(6, 4, rule(1, "", "1", cond("f", "=", 1)), rule(1, "4", "2"), rule(1, "5", "3")), count(0, 2, 5)), may("a", 1, "", 4), may("b", 1, "3", 4))
	all := func(up string) []step {
		return []step{
			over(tick(), up), over(user("a", 1), up), over(write("f", 0), up),
			// What would err otherwise is over too.
			over(user("zz", 1), up), over(user("a", 2), up), over(user("b", 1), up), over(write("zz", 0), up), over(write("f", api.MaxN+1), up), over(write("", math.MinInt), up),
			wrong(api.Act{}, up), wrong(api.Act{Kind: 4}, up), wrong(api.Act{Kind: -1, Item: "a", Event: 1}, up), over(tick(), up),
		}
	}
	after := func(up string, steps ...step) []step { return append(steps, all(up)...) }
	runAll(t,
		play{"at once", at(ends(p, 0), 0), "0", all("0")},
		play{"at once, the last of several", at(ends(p, 1, 3), 0, 3), "0 3", all("0 3")},
		play{"put up by a rule at New", ends(of(2, 2, rule(1, "", "1")), 1), "1", all("1")},
		play{"behind a write", ends(p, 1, 2, 3), "", after("1", ok(write("f", 2), ""), ok(write("f", 1), "1"))},
		play{"behind a user's act", ends(p, 1, 2, 3), "", after("2", ok(tick(), ""), ok(user("a", 1), "2"))},
		play{"behind a tick", at(ends(p, 1, 2, 3), 0), "0", after("0 3", ok(tick(), "0"), ok(tick(), "0 3"))},
		play{"not by a flag that is none of Over", at(ends(p, 1), 0), "0", []step{ok(tick(), "0"), ok(user("a", 1), "0 2"), ok(tick(), "0 2 3"), ok(tick(), "0 2 3"), ok(write("f", 1), "0 1 2 3"), over(tick(), "0 1 2 3")}},
		play{"no Over", at(p, 0, 1, 2, 3), "0 1 2 3", []step{ok(tick(), "0 1 2 3"), ok(user("a", 1), "0 1 2 3"), ok(write("f", 1), "0 1 2 3")}},
		// One that was up within the rounds alone, and is down when it rests, ends nothing.
		play{"up for a round", ends(of(2, 2, rule(1, "-0 -1", "0", cond("f", "=", 1)), rule(1, "0", "-0 1")), 0), "", []step{ok(write("f", 2), ""), ok(write("f", 1), "1"), ok(tick(), "1"), ok(write("f", 0), "1")}},
	)
}

// P11.1: Kinds that there are none of, ahead of all else.
func TestKinds(t *testing.T) {
	p := heard(of(2, 1, rule(1, "1", "0")), may("a", 1, "", 1))
	for _, kind := range []int{0, 4, -1, 5, math.MinInt, math.MaxInt, 1 + 1<<32, -3} {
		x := try(t, p)
		a := api.Act{Kind: kind, Item: "a", Event: 1, File: "f", N: 5}
		if err := x.do(a); err != api.ErrArg || x.m.Up(0) || x.m.File("f") != 0 {
			t.Errorf("%d: %v", kind, err)
		}
	}
}
