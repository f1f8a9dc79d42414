package gsm_test

import (
	"math"
	"slices"
	"strings"
	"testing"

	"sentry/api"
	"sentry/gsm"
)

// P11.2: what a machine tells, behind New and behind acts.
func TestTells(t *testing.T) {
	p := heard(at(of(5, 3, rule(1, "3", "1"), rule(1, "1", "4"), rule(1, "1", "-0"), rule(1, "", "2", cond("g", "<", 0))), 0), may("a", 1, "", 3))
	m, _ := gsm.New(p)
	hold := func(when string, want []bool, f, g int) {
		t.Helper()
		if got := m.Flags(); !slices.Equal(got, want) || m.File("f") != f || m.File("g") != g {
			t.Errorf("%s: %v, %d, %d", when, got, m.File("f"), m.File("g"))
		}
		for flag, up := range want {
			if m.Up(flag) != up {
				t.Errorf("%s: %d is not %v", when, flag, up)
			}
		}
	}
	hold("behind New", []bool{true, false, false, false, false}, 0, 0)
	m.Do(write("g", -5))
	hold("written", []bool{true, false, true, false, false}, 0, -5)
	m.Do(write("f", api.MaxN))
	hold("the other one written", []bool{true, false, true, false, false}, api.MaxN, -5)
	m.Do(user("a", 1))
	hold("by a user", []bool{false, true, true, false, false}, api.MaxN, -5)
	m.Do(write("g", api.MaxN+1))
	hold("an error", []bool{false, true, true, false, false}, api.MaxN, -5)
}

// P11.2: of a flag, a File that there is none of: false, 0.
func TestThereIsNone(t *testing.T) {
	p := at(of(3, 3, rule(1, "", "2 1")), 0)
	m, _ := gsm.New(p)
	m.Do(write("f", 4))
	m.Do(write("g", 5))
	for _, flag := range []int{math.MinInt, -1 << 32, -3, -2, -1, 3, 4, 5, 1 << 32, 1<<32 + 1, math.MaxInt} {
		if m.Up(flag) {
			t.Errorf("%d is up", flag)
		}
	}
	for _, file := range []string{"", "F", "h", "f ", " f", "fg", "ff", "\xff", strings.Repeat("f", 1<<20)} {
		if m.File(file) != 0 {
			t.Errorf("%q is %d", file, m.File(file))
		}
	}
	m, _ = gsm.New(api.Program{From: 1})
	if len(m.Flags()) != 0 || m.Up(0) || m.File("") != 0 {
		t.Error("no flag, no File")
	}
}

// P11.2: Flags are all there may be.
func TestAllFlags(t *testing.T) {
	p := of(api.MaxFlags, api.MaxFlags, rule(20, "", "799 0"))
	m, err := gsm.New(p)
	if err != api.OK || len(m.Flags()) != api.MaxFlags || ups(m) != "0 799" || !m.Up(799) || m.Up(800) {
		t.Error(err)
	}
	p.Lasting = 1
	p.Rules = []api.Rule{rule(1, "", "799"), rule(20, "799", "0")}
	if m, _ = gsm.New(p); len(m.Flags()) != api.MaxFlags || ups(m) != "0" {
		t.Error(ups(m))
	}
}

// P11.2: asking changes nothing, and asked again the answer is the same.
func TestAskingChangesNothing(t *testing.T) {
	p, acts := much()
	calm, _ := gsm.New(p)
	x := try(t, p)
	for _, a := range acts {
		for range 3 {
			x.hold("asked again")
		}
		if calm.Do(a) != x.do(a) || !slices.Equal(calm.Flags(), x.m.Flags()) {
			t.Error(a)
		}
	}
}

// P11.3: of a nil Machine all is nothing, Do answers ErrArg.
func TestNilMachine(t *testing.T) {
	var m *gsm.Machine
	for _, a := range []api.Act{{}, {Kind: 9}, tick(), write("f", 1), write("", 0), user("a", 1), user("", 0)} {
		if m.Do(a) != api.ErrArg {
			t.Error(a)
		}
	}
	for _, flag := range []int{0, 1, -1, math.MinInt, math.MaxInt} {
		if m.Up(flag) {
			t.Error(flag)
		}
	}
	if len(m.Flags()) != 0 || m.File("f") != 0 || m.File("") != 0 {
		t.Error("not nothing")
	}
}

// W1: a Machine that New did not make has no flag and no File; nothing panics.
func TestMachineNotOfNew(t *testing.T) {
	var m gsm.Machine
	for range 3 {
		for _, a := range []api.Act{{}, user("a", 1), user("", 0), write("f", 1), write("", 0)} {
			if m.Do(a) != api.ErrArg {
				t.Error(a)
			}
		}
		m.Do(tick())
		if len(m.Flags()) != 0 || m.Up(0) || m.File("") != 0 {
			t.Error("not nothing")
		}
	}
}
