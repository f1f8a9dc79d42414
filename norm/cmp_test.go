package norm_test

import (
	"math"
	"math/rand"
	"slices"
	"strings"
	"testing"

	"sentry/api"
	"sentry/norm"
)

// on is a sentry that waits for these.
func on(row ...api.On) api.Sentry { return api.Sentry{On: row} }

// when is a sentry that asks these.
func when(row ...api.Cond) api.Sentry { return api.Sentry{If: row} }

// both is a sentry that waits for one thing and asks these.
func both(x api.On, row ...api.Cond) api.Sentry {
	return api.Sentry{On: []api.On{x}, If: row}
}

// holdRising holds CmpSentry of each two of a rising row, both ways round,
// against their places, and against the oracle.
func holdRising(t *testing.T, what string, row []api.Sentry) {
	t.Helper()
	for i, a := range row {
		for k, b := range row {
			want := 0
			if i < k {
				want = -1
			}
			if i > k {
				want = 1
			}
			if got := norm.CmpSentry(a, b); got != want {
				t.Errorf("%s: of %d and %d: %d, not %d", what, i, k, got, want)
			}
			if cmpByKeys(a, b) != want {
				t.Errorf("%s: of %d and %d the oracle does not say %d", what, i, k, want)
			}
		}
	}
}

// rising texts: what begins another one is ahead, and bytes count, not letters.
var risingTexts = []string{
	"", "\x00", "\x00\x00", "\x00a", "\x01", " ", "-", ".", "0", "1", "10", "100", "11", "2", "9", "A", "AB", "Aa", "B", "Z", "Za", "_", "_a",
	"a", "a\x00", "a-", "a.", "a0", "a1", "a10", "a2", "aA", "a_", "aa", "aaa", "ab", "b", "z", "zz", "{", "\x7f", "\x80", "\xc3", "\u00e9", "\u00e9a", "\xff", "\xff\xff",
}

// rising numbers: near each other, and as far apart as there are.
var risingNumbers = []int{math.MinInt, math.MinInt + 1, -1 << 40, -1 << 32, -api.MaxN, -257, -256, -10, -9, -2, -1, 0, 1, 2, 9, 10, 255, 256, 257, api.MaxN, 1 << 31, 1 << 32, 1<<32 + 1, 1 << 40, math.MaxInt - 1, math.MaxInt}

// P7.1: each field alone, at each place of a row, all else being one.
func TestCmpByOneField(t *testing.T) {
	ons := []api.On{{Item: "k", Event: 2}, {Item: "k", Event: 3}}
	conds := []api.Cond{{File: "k", Op: "=", N: 2}, {File: "k", Op: "=", N: 3}}
	for place := range 3 {
		var items, events, files, ops, ns []api.Sentry
		for _, s := range risingTexts {
			items = append(items, api.Sentry{On: slices.Insert(slices.Clone(ons), place, api.On{Item: s, Event: 4}), If: conds})
			files = append(files, api.Sentry{On: ons, If: slices.Insert(slices.Clone(conds), place, api.Cond{File: s, Op: "<", N: 7})})
			ops = append(ops, api.Sentry{On: ons, If: slices.Insert(slices.Clone(conds), place, api.Cond{File: "f", Op: s, N: 7})})
		}
		for _, n := range risingNumbers {
			events = append(events, api.Sentry{On: slices.Insert(slices.Clone(ons), place, api.On{Item: "a", Event: n}), If: conds})
			ns = append(ns, api.Sentry{On: ons, If: slices.Insert(slices.Clone(conds), place, api.Cond{File: "f", Op: "<", N: n})})
		}
		holdRising(t, "Item", items)
		holdRising(t, "Event", events)
		holdRising(t, "File", files)
		holdRising(t, "Op", ops)
		holdRising(t, "N", ns)
	}
}

// P7.1: the Ops stand in the order of their bytes.
func TestCmpByOp(t *testing.T) {
	var row []api.Sentry
	for _, op := range []string{"!=", "<", "<=", "=", ">", ">="} {
		row = append(row, when(api.Cond{File: "f", Op: op}))
	}
	holdRising(t, "Ops", row)
}

// P7.1: a field that is told first counts more than all behind it.
func TestCmpByFieldsInTurn(t *testing.T) {
	const low, high = math.MinInt, math.MaxInt
	holdRising(t, "Item ahead of Event", []api.Sentry{on(api.On{Item: "a", Event: low}), on(api.On{Item: "a", Event: high}), on(api.On{Item: "b", Event: low}), on(api.On{Item: "b", Event: high})})
	holdRising(t, "File, Op, N", []api.Sentry{
		when(api.Cond{File: "a", Op: "<", N: low}), when(api.Cond{File: "a", Op: "<", N: high}), when(api.Cond{File: "a", Op: ">", N: low}), when(api.Cond{File: "a", Op: ">", N: high}),
		when(api.Cond{File: "b", Op: "!=", N: low}), when(api.Cond{File: "b", Op: "!=", N: high}), when(api.Cond{File: "b", Op: "=", N: low}), when(api.Cond{File: "b", Op: "=", N: high}),
	})
	a, b := api.On{Item: "a", Event: 5}, api.On{Item: "b", Event: 1}
	f, g := api.Cond{File: "f", Op: ">", N: 5}, api.Cond{File: "g", Op: "<", N: -5}
	holdRising(t, "one by one, On ahead of If", []api.Sentry{
		{}, when(f), when(f, f), when(f, g), when(f, g, f), when(g), when(g, f), when(g, g),
		on(a), both(a, f), both(a, f, f), both(a, f, g), both(a, g), on(a, a), on(a, b), {On: []api.On{a, b}, If: []api.Cond{f}}, on(a, b, a),
		on(b), both(b, f), both(b, g), on(b, a), {On: []api.On{b, a}, If: []api.Cond{g}}, on(b, a, b), on(b, b),
	})
}

// P7.1: who ends first is ahead, however long they are.
func TestCmpByHowMany(t *testing.T) {
	var ons, conds []api.Sentry
	x := api.On{Item: "a", Event: 1}
	c := api.Cond{File: "f", Op: "="}
	for n := range 12 {
		ons = append(ons, api.Sentry{On: slices.Repeat([]api.On{x}, n), If: slices.Repeat([]api.Cond{c}, 12-n)})
		conds = append(conds, api.Sentry{On: []api.On{x}, If: slices.Repeat([]api.Cond{c}, n)})
	}
	holdRising(t, "On", ons)
	holdRising(t, "If", conds)
	const many = 1 << 20
	row := slices.Repeat([]api.On{x}, many)
	last := slices.Clone(row)
	last[many-1].Event = 2
	text := strings.Repeat("a", many)
	long := []api.Sentry{on(row[:many-1]...), on(row...), on(last...), on(api.On{Item: text[1:]}), on(api.On{Item: text}), on(api.On{Item: text[1:] + "b"})}
	for i := range long[1:] {
		if norm.CmpSentry(long[i], long[i+1]) != -1 || norm.CmpSentry(long[i+1], long[i]) != 1 || norm.CmpSentry(long[i], long[i]) != 0 {
			t.Error(i)
		}
	}
}

// P7.1: of two that are one 0, where a list is nil or empty too (W5); what
// stands behind the end of a list does not count.
func TestCmpOfOne(t *testing.T) {
	x, c := api.On{Item: "a", Event: 1}, api.Cond{File: "f", Op: "=", N: 1}
	rows := []api.Sentry{{On: []api.On{x, x}, If: []api.Cond{c, c}}, on(x), when(c), {}}
	for _, s := range rows {
		other := api.Sentry{On: append([]api.On{}, s.On...), If: append([]api.Cond{}, s.If...)}
		spare := api.Sentry{On: append(slices.Clone(s.On), api.On{Item: "z"})[:len(s.On)], If: append(slices.Clone(s.If), api.Cond{File: "z"})[:len(s.If)]}
		for _, b := range []api.Sentry{s, other, spare} {
			if norm.CmpSentry(s, b) != 0 || norm.CmpSentry(b, s) != 0 {
				t.Errorf("%v and %v are two", s, b)
			}
		}
	}
	// Lists in another order are two here: only Normal puts them in order.
	y, d := api.On{Item: "b", Event: 1}, api.Cond{File: "g", Op: "=", N: 1}
	if norm.CmpSentry(on(x, y), on(y, x)) != -1 || norm.CmpSentry(when(d, c), when(c, d)) != 1 || norm.CmpSentry(when(c), when(c, c)) != -1 {
		t.Error("lists in another order are one")
	}
}

// anySentry is a sentry of few things, often such as may not be.
func anySentry(r *rand.Rand) api.Sentry {
	var s api.Sentry
	for range r.Intn(4) {
		s.On = append(s.On, api.On{Item: pick(r, "a", "b", "", "ab", "\xff"), Event: pick(r, 1, 2, -1, math.MinInt, math.MaxInt)})
	}
	for range r.Intn(4) {
		s.If = append(s.If, api.Cond{File: pick(r, "f", "", "ff"), Op: pick(r, "<", "<=", "=", "?"), N: pick(r, 0, 1, -1, math.MinInt, math.MaxInt)})
	}
	return s
}

// P7.1: any two, against the oracle.
func TestCmpOfAny(t *testing.T) {
	r := rand.New(rand.NewSource(71))
	count := map[int]int{}
	for range 50000 {
		a, b := anySentry(r), anySentry(r)
		if pick(r, true, false) {
			b.On = slices.Clone(a.On)
		}
		got := norm.CmpSentry(a, b)
		if got != cmpByKeys(a, b) || norm.CmpSentry(b, a) != -got {
			t.Fatalf("%v, %v: %d", a, b, got)
		}
		count[got]++
	}
	if count[0] < 1000 || count[-1] < 10000 || count[1] < 10000 {
		t.Error(count)
	}
}
