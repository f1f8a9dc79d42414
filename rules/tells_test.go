package rules_test

import (
	"math"
	"math/rand"
	"reflect"
	"slices"
	"strconv"
	"testing"

	"sentry/api"
	"sentry/rules"
)

// holdStrata holds Reads and Writes of each flag there may be against the oracle.
func holdStrata(t *testing.T, p api.Program) {
	t.Helper()
	for _, flag := range append([]int{math.MinInt, -2, -1, p.Flags - 1, p.Flags, p.Flags + 1, math.MaxInt}, 0, 1, 2, 3, 4, 5, 6, 7, 8, 9) {
		if got, want := rules.Reads(p, flag), strataOf(p, flag, readBy); !slices.Equal(got, want) {
			t.Errorf("%d is read in %v, not %v", flag, got, want)
		}
		if got, want := rules.Writes(p, flag), strataOf(p, flag, writtenBy); !slices.Equal(got, want) {
			t.Errorf("%d is written in %v, not %v", flag, got, want)
		}
	}
}

// P10.1: the strata of flags that stand in none, in one and in several rules.
func TestReadsAndWrites(t *testing.T) {
	p := sample()
	for flag, want := range [][2][]int{{{1}, {6}}, {{1, 6}, {6}}, {{3}, nil}, {{1}, {6}}, {{3}, {1}}, {{6}, {1, 3}}, {nil, {1}}, {{6}, {3}}, {{6}, nil}, {nil, nil}} {
		if got := rules.Reads(p, flag); !slices.Equal(got, want[0]) {
			t.Errorf("%d is read in %v, not %v", flag, got, want[0])
		}
		if got := rules.Writes(p, flag); !slices.Equal(got, want[1]) {
			t.Errorf("%d is written in %v, not %v", flag, got, want[1])
		}
	}
	holdStrata(t, p)
	holdStrata(t, api.Program{})
}

// P10.1: programs that may not be have strata too, rising and each once, in
// whatever order their rules stand; nor need a flag be one of the program's.
func TestStrataOfAny(t *testing.T) {
	var p api.Program
	for _, stratum := range []int{7, 3, 7, math.MaxInt, -5, 3, 0, math.MinInt, 7, math.MaxInt, 1 << 32, -5} {
		p.Rules = append(p.Rules,
			api.Rule{Stratum: stratum, If: []api.Lit{{Flag: 1, Not: true}, {Flag: -4}, {Flag: 1}}},
			api.Rule{Stratum: stratum, Then: []api.Set{{Flag: 2}, {Flag: math.MaxInt, Up: true}, {Flag: 2}}})
	}
	want := []int{math.MinInt, -5, 0, 3, 7, 1 << 32, math.MaxInt}
	for _, got := range [][]int{rules.Reads(p, 1), rules.Reads(p, -4), rules.Writes(p, 2), rules.Writes(p, math.MaxInt)} {
		if !slices.Equal(got, want) {
			t.Errorf("%v, not %v", got, want)
		}
	}
	holdStrata(t, p)
	r := rand.New(rand.NewSource(102))
	seen := map[int]int{}
	for range 5000 {
		p := grown(r)
		for range r.Intn(4) {
			spoil(r, &p)
		}
		r.Shuffle(len(p.Rules), func(i, k int) { p.Rules[i], p.Rules[k] = p.Rules[k], p.Rules[i] })
		holdStrata(t, p)
		seen[len(rules.Reads(p, 1))]++
		seen[len(rules.Writes(p, 1))]++
	}
	if seen[0] < 100 || seen[1] < 100 || seen[2] < 100 || seen[3] < 10 {
		t.Error(seen)
	}
}

// change is one change of a program, made by do at what path tells.
type change struct {
	path string
	do   func()
}

// changes are all changes of one field, or of one row, of a thing.
func changes(path string, v reflect.Value) []change {
	var out []change
	add := func(what string, do func()) { out = append(out, change{path + what, do}) }
	switch v.Kind() {
	case reflect.Struct:
		for i := range v.NumField() {
			out = append(out, changes(path+"."+v.Type().Field(i).Name, v.Field(i))...)
		}
	case reflect.Int:
		for _, n := range []int64{1, -1, 1 << 32, math.MinInt} {
			add(" another number", func() { v.SetInt(v.Int() + n) })
		}
	case reflect.Bool:
		add(" turned", func() { v.SetBool(!v.Bool()) })
	case reflect.String:
		add(" longer", func() { v.SetString(v.String() + "\x00") })
		add(" another text", func() { v.SetString("z" + v.String()[min(1, v.Len()):]) })
	case reflect.Slice:
		out = append(out, rowChanges(path, v)...)
		for i := range v.Len() {
			out = append(out, changes(path+"["+strconv.Itoa(i)+"]", v.Index(i))...)
		}
	}
	return out
}

// rowChanges are those of a row's elements, how many they are and in what order.
func rowChanges(path string, v reflect.Value) []change {
	n := v.Len()
	out := []change{
		{path + " one more", func() { v.Set(reflect.Append(v, reflect.Zero(v.Type().Elem()))) }},
		{path + " one more ahead", func() {
			v.Set(reflect.AppendSlice(reflect.Append(reflect.MakeSlice(v.Type(), 0, n), reflect.Zero(v.Type().Elem())), v))
		}},
	}
	if n > 0 {
		out = append(out, change{path + " without the last", func() { v.Set(v.Slice(0, n-1)) }}, change{path + " without the first", func() { v.Set(v.Slice(1, n)) }}, change{path + " none", func() { v.SetZero() }})
	}
	for i := 1; i < n; i++ {
		if !reflect.DeepEqual(v.Index(i-1).Interface(), v.Index(i).Interface()) {
			out = append(out, change{path + " two swapped", func() { reflect.Swapper(v.Interface())(i-1, i) }})
		}
	}
	return out
}

// P10.2: programs that differ in one field, or in one row, alone are two.
func TestSameByOneField(t *testing.T) {
	mine := sample()
	all := changes("", reflect.ValueOf(&mine).Elem())
	if len(all) < 500 {
		t.Fatal(len(all))
	}
	for i := range all {
		p := sample()
		x := changes("", reflect.ValueOf(&p).Elem())[i]
		x.do()
		if rules.Same(p, sample()) || rules.Same(sample(), p) {
			t.Error("the same:", x.path)
		}
		if !rules.Same(p, p) {
			t.Error("not the same as itself:", x.path)
		}
	}
	if !rules.Same(sample(), sample()) || !rules.Same(api.Program{}, api.Program{}) || rules.Same(api.Program{}, sample()) || rules.Same(sample(), api.Program{}) {
		t.Error("whole programs")
	}
}

// emptyRows puts nil, or an empty row, at each place where a row has no element.
func emptyRows(v reflect.Value, empty bool) int {
	n := 0
	switch v.Kind() {
	case reflect.Struct:
		for i := range v.NumField() {
			n += emptyRows(v.Field(i), empty)
		}
	case reflect.Slice:
		if v.Len() == 0 {
			v.SetZero()
			if empty {
				v.Set(reflect.MakeSlice(v.Type(), 0, 3))
			}
			return 1
		}
		for i := range v.Len() {
			n += emptyRows(v.Index(i), empty)
		}
	}
	return n
}

// P10.2: nil and empty rows are one, in each place.
func TestNilAndEmptyRows(t *testing.T) {
	bare := api.Program{From: 1, Rules: make([]api.Rule, 2), Users: make([]api.User, 2), Notes: []api.Item{{Entry: make([]api.Sentry, 2), Exit: make([]api.Sentry, 2)}, {}}}
	for _, build := range []func() api.Program{
		func() api.Program { return api.Program{} },
		sample,
		func() api.Program {
			p := bare
			p.Rules, p.Users, p.Notes = slices.Clone(p.Rules), slices.Clone(p.Users), slices.Clone(p.Notes)
			for i := range p.Notes {
				p.Notes[i].Entry, p.Notes[i].Exit = slices.Clone(p.Notes[i].Entry), slices.Clone(p.Notes[i].Exit)
			}
			return p
		},
	} {
		a, b := build(), build()
		n := emptyRows(reflect.ValueOf(&a).Elem(), false)
		if m := emptyRows(reflect.ValueOf(&b).Elem(), true); m != n || n < 5 {
			t.Fatal(n, m)
		}
		if !rules.Same(a, b) || !rules.Same(b, a) || rules.Is(a) != rules.Is(b) {
			t.Error("nil and empty are two")
		}
	}
}

// P10.2: what stands behind a row's end does not count, nor where rows stand.
func TestSameOfSpareRoom(t *testing.T) {
	if !rules.Same(roomySample(), sample()) || !rules.Same(sample(), roomySample()) || !rules.Is(roomySample()) {
		t.Error("the room behind a row counts")
	}
	p := roomySample()
	if len(rules.Reads(p, 77)) != 0 || len(rules.Writes(p, 77)) != 0 {
		t.Error("the room behind a row is read")
	}
}

// P10.2: grown programs, with and without a thing turned.
func TestSameOfGrown(t *testing.T) {
	seen := map[bool]int{}
	for seed := range int64(5000) {
		a, b := grown(rand.New(rand.NewSource(seed))), grown(rand.New(rand.NewSource(seed)))
		if !rules.Same(a, b) {
			t.Fatal("not the same")
		}
		emptyRows(reflect.ValueOf(&a).Elem(), false)
		spoil(rand.New(rand.NewSource(seed)), &b)
		emptyRows(reflect.ValueOf(&b).Elem(), false)
		want := reflect.DeepEqual(a, b)
		if rules.Same(a, b) != want || rules.Same(b, a) != want {
			t.Fatalf("%v of %+v and %+v", !want, a, b)
		}
		seen[want]++
	}
	if seen[true] < 100 || seen[false] < 1000 {
		t.Error(seen)
	}
}
