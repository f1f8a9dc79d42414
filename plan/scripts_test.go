package plan_test

import (
	"math/rand"
	"slices"
	"testing"

	"sentry/api"
	"sentry/plan"
)

// P9.1, P9.2: any models and any acts, held against the told case behind each act; all that a round must tell apart comes to be.
func TestGrownModels(t *testing.T) {
	seen := map[string]int{}
	for seed := range 4000 {
		r := rand.New(rand.NewSource(int64(seed)))
		m := grown(r)
		if seed%3 > 0 && len(m.Items) < api.MaxItems {
			// So that the plan is not over soon.
			m.Items = append(m.Items, task("keep").in(m.Items[0].ID).must().Item)
		}
		x := try(t, m)
		for ended := 0; ended < 3 && x.o.now < 12; {
			if x.do(grownAct(r, m)) == api.ErrOver {
				ended++
			}
			if x.o.seen["act 1: sentry: error 8"] > 30 {
				break
			}
		}
		for what, n := range x.o.seen {
			seen[what] += n
		}
	}
	for _, what := range []string{
		"act 1: sentry: error 0", "act 1: sentry: error 1", "act 1: sentry: error 8", "act 1: sentry: error 9",
		"act 2: sentry: error 0", "act 2: sentry: error 1", "act 2: sentry: error 9",
		"act 3: sentry: error 0", "act 3: sentry: error 9", "act 4: sentry: error 1",
		"closed ahead of its create", "closed instead of 0", "closed instead of 2", "closed instead of 3", "closed instead of 4", "closed instead of 5",
		"does 1", "does 2", "does 3", "does 4", "does 5",
		"exits ahead of its start", "timers at once", "waits for what is Required", "waits for what starts just now",
	} {
		if seen[what] < 5 {
			t.Errorf("%s: %d", what, seen[what])
		}
	}
}

// W2: the same acts answer the same, in each of many cases of one model.
func TestTheSameAgain(t *testing.T) {
	for seed := range 40 {
		r := rand.New(rand.NewSource(int64(seed)))
		m := grown(r)
		var acts []api.Act
		for range 20 {
			acts = append(acts, grownAct(r, m))
		}
		var first []int
		for again := range 10 {
			c, _ := plan.New(m)
			var all []int
			for _, a := range acts {
				all = append(append(all, int(c.Do(a)), c.Rounds(), c.Now()), c.States()...)
			}
			if again == 0 {
				first = all
			}
			if !slices.Equal(all, first) {
				t.Fatalf("%v, not %v: %v", all, first, m)
			}
		}
	}
}

// P9.1: a case is over once a user had all of it Exit, and answers ErrOver from then on.
func TestAllExits(t *testing.T) {
	for seed := range 500 {
		r := rand.New(rand.NewSource(int64(seed)))
		m := grown(r)
		x := try(t, m)
		plan := m.Items[0].ID
		for range 2 {
			for _, item := range m.Items[1:] {
				x.do(exit(item.ID))
			}
		}
		if x.c.State(plan) != api.Done || x.do(tick()) != api.ErrOver {
			t.Fatalf("%s: %v", letters(x.c.States()), m)
		}
	}
}

// P9.1, P9.2, P9.3: any model that grows from a seed, any acts that bytes tell.
func FuzzActs(f *testing.F) {
	f.Add(int64(1), []byte{0, 1, 3, 1, 0, 5, 2, 0, 0})
	f.Add(int64(7), []byte{2, 0, 0, 2, 0, 0, 2, 0, 0, 0, 2, 4, 0, 3, 5})
	f.Add(int64(42), []byte{1, 0, 2, 1, 1, 254, 0, 9, 9, 3, 3, 3})
	f.Fuzz(func(t *testing.T, seed int64, script []byte) {
		m := grown(rand.New(rand.NewSource(seed)))
		x := try(t, m)
		for ; len(script) >= 3 && x.o.now < 40; script = script[3:] {
			a := api.Act{Kind: int(script[0]) % 5, Item: "zz", Event: int(script[2]) % 7, File: "zz", N: int(int8(script[2]))}
			if i := int(script[1]); i < len(m.Items) {
				a.Item = m.Items[i].ID
			}
			if i := int(script[1]); i < len(m.Files) {
				a.File = m.Files[i]
			}
			x.do(a)
		}
	})
}
