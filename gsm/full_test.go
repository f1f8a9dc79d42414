package gsm_test

import (
	"strconv"
	"testing"

	"sentry/api"
)

// While 1 is up and f is 1, flag 0 never rests. A user (5) turns 1, a counter
// (6) puts it up, and g does so above 3; 2 is as h is 1, 3 and 4 tell counters.
func restless() api.Program {
	p := of(9, 5,
		rule(1, "1 -0", "0", cond("f", "=", 1)), rule(1, "1 0", "-0", cond("f", "=", 1)),
		rule(1, "5 -1", "1"), rule(1, "5 1", "-1"), rule(1, "6", "1"), rule(1, "", "1", cond("g", ">", 3)),
		rule(1, "", "-2"), rule(1, "", "2", cond("h", "=", 1)),
		rule(1, "7 -3", "3"), rule(1, "7 3", "-3"), rule(1, "8 -4", "4"), rule(1, "8 4", "-4"))
	p.Files = []string{"f", "g", "h"}
	return heard(p, may("a", 1, "", 5))
}

// P11.1, W3: an act behind which it does not come to rest: ErrFull, and all is as it was.
func TestFull(t *testing.T) {
	runAll(t,
		play{"a user", restless(), "", []step{
			ok(write("f", 1), ""), full(user("a", 1), ""), full(user("a", 1), ""), ok(write("f", 0), ""), ok(user("a", 1), "1"), full(write("f", 1), "1"), ok(user("a", 1), ""), ok(write("f", 1), ""), full(user("a", 1), ""),
		}},
		play{"a write", restless(), "", []step{
			ok(write("f", 2), ""), ok(write("g", 4), "1"), full(write("f", 1), "1"), ok(write("f", -2), "1"), full(write("f", 1), "1"), ok(write("g", 3), "1"), ok(user("a", 1), ""), ok(write("f", 1), ""), full(write("g", 5), ""), ok(write("g", 3), ""), full(write("g", api.MaxN), ""),
		}},
		play{"a tick", counting(restless(), count(2, 1, 6)), "", []step{
			ok(write("h", 1), "2"), ok(write("f", 1), "2"), full(tick(), "2"), full(tick(), "2"), ok(write("f", 0), "2"), ok(tick(), "1 2"), full(write("f", 1), "1 2"),
		}},
	)
}

// P11.1: the numbers are as they were, of each File.
func TestFullKeepsNumbers(t *testing.T) {
	x := try(t, restless())
	for _, s := range []step{ok(write("f", 7), ""), ok(write("h", 9), ""), ok(write("g", 5), "1"), full(write("f", 1), "1"), ok(write("g", 2), "1"), ok(user("a", 1), ""), ok(write("f", 1), ""), full(write("g", 8), ""), full(user("a", 1), "")} {
		if err := x.do(s.act); err != s.err || ups(x.m) != s.up {
			t.Errorf("%v: %v, up is %q", s.act, err, ups(x.m))
		}
	}
	if x.m.File("f") != 1 || x.m.File("g") != 2 || x.m.File("h") != 9 {
		t.Error(x.m.File("f"), x.m.File("g"), x.m.File("h"))
	}
}

// P11.1: a tick behind which it does not come to rest was none: each count is
// as it was, of a counter that comes to its limit, of one that does not yet, of
// one whose flag is down, and of one that is beyond.
func TestFullKeepsCounts(t *testing.T) {
	bell := counting(restless(), count(2, 2, 6))
	h, noH := write("h", 1), write("h", 0)
	runAll(t,
		play{"it comes to its limit as soon as it can", bell, "", []step{
			ok(h, "2"), ok(write("f", 1), "2"), ok(tick(), "2"), full(tick(), "2"), full(tick(), "2"), full(tick(), "2"), ok(write("f", 0), "2"), ok(tick(), "1 2"), ok(user("a", 1), "2"), ok(tick(), "2"), ok(tick(), "2"),
		}},
		play{"it may go down ahead of it", bell, "", []step{
			ok(h, "2"), ok(write("f", 1), "2"), ok(tick(), "2"), full(tick(), "2"), ok(noH, ""), ok(tick(), ""), ok(h, "2"), ok(tick(), "2"), full(tick(), "2"), ok(write("f", 0), "2"), ok(tick(), "1 2"),
		}},
		play{"another one counts no tick that was none", counting(bell, count(2, 2, 6), count(2, 4, 7)), "", []step{
			ok(h, "2"), ok(write("f", 1), "2"), ok(tick(), "2"), full(tick(), "2"), full(tick(), "2"), full(tick(), "2"), ok(write("f", 0), "2"), ok(tick(), "1 2"), ok(tick(), "1 2"), ok(tick(), "1 2 3"), ok(tick(), "1 2 3"),
		}},
		play{"the same, the other way round", counting(bell, count(2, 4, 7), count(2, 2, 6)), "", []step{
			ok(h, "2"), ok(write("f", 1), "2"), ok(tick(), "2"), full(tick(), "2"), full(tick(), "2"), ok(write("f", 0), "2"), ok(tick(), "1 2"), ok(tick(), "1 2"), ok(tick(), "1 2 3"), ok(tick(), "1 2 3"),
		}},
		play{"one that would be due with it", counting(bell, count(2, 2, 7), count(2, 2, 6), count(2, 2, 8)), "", []step{
			ok(h, "2"), ok(write("f", 1), "2"), ok(tick(), "2"), full(tick(), "2"), full(tick(), "2"), ok(write("f", 0), "2"), ok(tick(), "1 2 3 4"), ok(tick(), "1 2 3 4"),
		}},
	)
	runAll(t,
		// As 2 is down, a tick that were one would have its counter begin anew.
		play{"one whose flag is down", counting(heard(restlessBell(), may("a", 1, "", 5)), count(2, 3, 8), count(3, 2, 6)), "3", []step{
			ok(h, "2 3"), ok(write("f", 1), "2 3"), ok(tick(), "2 3"), ok(noH, "3"), full(tick(), "3"), full(tick(), "3"), ok(h, "2 3"), ok(write("f", 0), "2 3"), ok(tick(), "1 2 3"), ok(tick(), "1 2 3 4"), ok(tick(), "1 2 3 4"),
		}},
		play{"one that is beyond its limit", counting(heard(restlessBell(), may("a", 1, "", 5)), count(2, 1, 8), count(3, 2, 6)), "3", []step{
			ok(h, "2 3"), ok(write("f", 1), "2 3"), ok(tick(), "2 3 4"), full(tick(), "2 3 4"), full(tick(), "2 3 4"), ok(write("f", 0), "2 3 4"), ok(tick(), "1 2 3 4"), ok(tick(), "1 2 3 4"),
		}},
		play{"one whose flag is down, at its limit", counting(heard(restlessBell(), may("a", 1, "", 5)), count(2, 1, 8), count(3, 2, 6)), "3", []step{
			ok(h, "2 3"), ok(write("f", 1), "2 3"), ok(tick(), "2 3 4"), ok(noH, "3 4"), full(tick(), "3 4"), ok(h, "2 3 4"), ok(write("f", 0), "2 3 4"), ok(tick(), "1 2 3 4"), ok(noH, "1 3 4"), ok(tick(), "1 3 4"), ok(h, "1 2 3 4"), ok(tick(), "1 2 3"),
		}},
	)
}

// restlessBell is the restless one with 3 up at first, which nothing turns.
func restlessBell() api.Program {
	p := at(restless(), 3)
	p.Rules[8], p.Rules[9] = rule(1, "7", "3"), rule(1, "7", "3")
	return p
}

// P11.1: ErrFull of Do is told as New tells it: the greatest number of rounds
// that it may take, and one more.
func TestFullByOne(t *testing.T) {
	// f starts the chain at one of its flags: the lesser f, the longer it is.
	p := of(121, 121, chain(120)...)
	for i := range 120 {
		p.Rules = append(p.Rules, rule(1, "", strconv.Itoa(i), cond("f", "=", 120-i)))
	}
	for n, want := range map[int]api.Errno{1: api.OK, 50: api.OK, 97: api.OK, 98: api.OK, 99: api.ErrFull, 100: api.ErrFull, 119: api.ErrFull} {
		x := try(t, p)
		if err := x.do(write("f", n)); err != want || x.m.Up(120) != (want == api.OK) {
			t.Errorf("%d: %v", n, err)
		}
		if want == api.ErrFull && (ups(x.m) != "" || x.m.File("f") != 0 || x.do(write("f", 98)) != api.OK || !x.m.Up(120)) {
			t.Errorf("%d: it is not as it was", n)
		}
	}
}
