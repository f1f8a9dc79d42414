package gsm_test

import (
	"math/rand"
	"slices"
	"testing"

	"sentry/api"
	"sentry/gsm"
)

// P11.1, P11.2: any programs and any acts, held against the told machine behind
// each act; all that must be told apart comes to be.
func TestGrownPrograms(t *testing.T) {
	seen := map[string]int{}
	for seed := range 6000 {
		r := rand.New(rand.NewSource(int64(seed)))
		p := grown(r)
		x := try(t, p)
		if x == nil {
			seen["no rest at New"]++
			continue
		}
		for ended, acts := 0, 0; ended < 3 && acts < 25; acts++ {
			if x.do(grownAct(r, p)) == api.ErrOver {
				ended++
			}
		}
		for what, n := range x.o.seen {
			seen[what] += n
		}
	}
	for _, what := range []string{
		"no rest at New", "judged by how it began", "turned and turned back", "down behind the round",
		"user: sentry: error 0", "user: sentry: error 1", "user: sentry: error 4", "user: sentry: error 8", "user: sentry: error 9", "user: several rounds", "a User whose While does not hold",
		"write: sentry: error 0", "write: sentry: error 1", "write: sentry: error 4", "write: sentry: error 9", "write: several rounds",
		"tick: sentry: error 0", "tick: sentry: error 4", "tick: sentry: error 9", "tick: several rounds", ": sentry: error 1",
		"two due at once", "due behind a new beginning",
	} {
		if seen[what] < 10 {
			t.Errorf("%s: %d", what, seen[what])
		}
	}
}

// W2: the same acts answer the same, in each of many machines of one program.
func TestTheSameAgain(t *testing.T) {
	for seed := range 40 {
		r := rand.New(rand.NewSource(int64(seed)))
		p := grown(r)
		var acts []api.Act
		for range 20 {
			acts = append(acts, grownAct(r, p))
		}
		var first []bool
		for again := range 10 {
			m, err := gsm.New(p)
			all := []bool{err == api.OK}
			for _, a := range acts {
				all = append(append(all, m.Do(a) == api.OK), m.Flags()...)
			}
			if again == 0 {
				first = all
			}
			if !slices.Equal(all, first) {
				t.Fatalf("%v, not %v: %+v", all, first, p)
			}
		}
	}
}

// P11.1, W3: what errs changes nothing: without the acts that err all goes on as with them.
func TestWithoutWhatErrs(t *testing.T) {
	erred := 0
	for seed := range 1500 {
		r := rand.New(rand.NewSource(int64(seed)))
		p := grown(r)
		p.Over = nil
		with, err := gsm.New(p)
		if err != api.OK {
			continue
		}
		without, _ := gsm.New(p)
		for range 40 {
			a := grownAct(r, p)
			if with.Do(a) != api.OK {
				erred++
				continue
			}
			if without.Do(a) != api.OK || !slices.Equal(with.Flags(), without.Flags()) {
				t.Fatalf("%v: %s, not %s: %+v", a, ups(with), ups(without), p)
			}
		}
		for _, file := range p.Files {
			if with.File(file) != without.File(file) {
				t.Fatal(file)
			}
		}
	}
	if erred < 1000 {
		t.Error(erred)
	}
}

// P11.1, P11.2, P11.3: any program that grows from a seed, any acts that bytes tell.
func FuzzDo(f *testing.F) {
	f.Add(int64(1), []byte{1, 1, 1, 3, 0, 0, 3, 0, 0, 2, 1, 2})
	f.Add(int64(7), []byte{3, 0, 0, 3, 0, 0, 1, 0, 0, 1, 2, 2, 0, 0, 0})
	f.Add(int64(42), []byte{2, 0, 2, 2, 1, 254, 1, 1, 0, 4, 9, 9})
	f.Fuzz(func(t *testing.T, seed int64, script []byte) {
		p := grown(rand.New(rand.NewSource(seed)))
		x := try(t, p)
		for acts := 0; x != nil && len(script) >= 3 && acts < 60; acts++ {
			x.do(api.Act{
				Kind:  int(script[0]) % 5,
				Item:  []string{"a", "b", "", "zz"}[script[1]%4],
				Event: int(script[2]) % 4,
				File:  []string{"f", "", "a b", "zz"}[script[1]%4],
				N:     int(int8(script[2])),
			})
			script = script[3:]
		}
	})
}
