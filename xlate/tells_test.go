package xlate_test

import (
	"math"
	"slices"
	"strings"
	"testing"

	"sentry/api"
	"sentry/xlate"
)

// P12.2: an item's flag of each state, by its place.
func TestFlag(t *testing.T) {
	m := sample()
	for i, x := range m.Items {
		for n, state := range []int{api.Ready, api.Open, api.Done, api.Gone} {
			if got := xlate.Flag(m, x.ID, state); got != 4*i+n {
				t.Errorf("%s, %d: %d", x.ID, state, got)
			}
		}
		for _, state := range []int{api.Wait, 5, 6, -1, -2, -3, 1 << 32, 1<<32 + 1, 1<<32 + 4, math.MinInt, math.MaxInt} {
			if got := xlate.Flag(m, x.ID, state); got != -1 {
				t.Errorf("%s, %d: %d", x.ID, state, got)
			}
		}
	}
	for _, id := range []string{"", "P", "p ", "zz", "f", "\xff", strings.Repeat("p", 1<<16)} {
		for state := -1; state <= 5; state++ {
			if got := xlate.Flag(m, id, state); got != -1 {
				t.Errorf("%q, %d: %d", id, state, got)
			}
		}
	}
}

// P12.2: Flag of models that may not be: by the first item of that ID.
func TestFlagOfAny(t *testing.T) {
	two := api.Model{Items: []api.Item{{ID: "a"}, {}, {ID: "b"}, {ID: "b"}, {ID: ""}}}
	for id, place := range map[string]int{"a": 0, "": 1, "b": 2} {
		if got := xlate.Flag(two, id, api.Done); got != 4*place+2 {
			t.Errorf("%q: %d", id, got)
		}
	}
	if xlate.Flag(api.Model{}, "", api.Open) != -1 || xlate.Flag(api.Model{Files: []string{"f"}}, "f", api.Open) != -1 {
		t.Error("no items")
	}
}

// P12.2: of an item's flags that are up the first one asked counts: each set of
// four, at the first place and at the last one.
func TestStatesOfEachSet(t *testing.T) {
	m := of(task("a"), mile("b"))
	for set := range 16 {
		want := api.Wait
		// From that asked last on.
		for _, x := range [][2]int{{0, api.Ready}, {1, api.Open}, {3, api.Gone}, {2, api.Done}} {
			if set>>x[0]&1 == 1 {
				want = x[1]
			}
		}
		for place := range m.Items {
			up := make([]bool, 40)
			for n := range 4 {
				up[4*place+n] = set>>n&1 == 1
			}
			states := make([]int, 3)
			states[place] = want
			if got := xlate.States(m, up); !slices.Equal(got, states) {
				t.Errorf("%v: %v, not %v", up[4*place:][:4], got, states)
			}
		}
	}
}

// P12.2: a row that is too short, at each length; what is behind the flags of
// states does not count.
func TestStatesOfShortRows(t *testing.T) {
	m := of(task("a"), mile("b"))
	all := []bool{true, true, true, true, true, true, false, true, true, true, false, false}
	want := map[int][]int{0: {0, 0, 0}, 1: {1, 0, 0}, 2: {2, 0, 0}, 3: {3, 0, 0}, 4: {3, 0, 0}, 5: {3, 1, 0}, 6: {3, 2, 0}, 7: {3, 2, 0}, 8: {3, 4, 0}, 9: {3, 4, 1}, 10: {3, 4, 2}, 11: {3, 4, 2}, 12: {3, 4, 2}}
	for n := range 13 {
		// What stands behind the row's end is none of it.
		if got := xlate.States(m, all[:n]); !slices.Equal(got, want[n]) {
			t.Errorf("%d: %v, not %v", n, got, want[n])
		}
	}
	long := slices.Repeat([]bool{true}, 5000)
	copy(long, all)
	if got := xlate.States(m, long); !slices.Equal(got, want[12]) {
		t.Error(got)
	}
	if got := xlate.States(m, nil); !slices.Equal(got, []int{0, 0, 0}) {
		t.Error(got)
	}
}

// P12.2: States of models that may not be: an item, a state.
func TestStatesOfAny(t *testing.T) {
	if got := xlate.States(api.Model{}, []bool{true, true}); len(got) != 0 {
		t.Error(got)
	}
	if got := xlate.States(api.Model{Items: make([]api.Item, 3)}, []bool{false, true, false, false, true}); !slices.Equal(got, []int{api.Open, api.Ready, api.Wait}) {
		t.Error(got)
	}
	if got := xlate.States(api.Model{Items: make([]api.Item, 50000)}, slices.Repeat([]bool{true}, 7)); len(got) != 50000 || got[0] != api.Done || got[1] != api.Done || got[2] != api.Wait || got[49999] != api.Wait {
		t.Error(len(got))
	}
}
