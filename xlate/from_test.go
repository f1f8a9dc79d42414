package xlate_test

import (
	"math"
	"math/rand"
	"reflect"
	"slices"
	"strconv"
	"strings"
	"testing"

	"sentry/api"
	"sentry/model"
	"sentry/rules"
	"sentry/xlate"
)

// holdBack holds From of a program against the oracle, and tells whether it is
// a model's.
func holdBack(t *testing.T, what string, p api.Program) bool {
	t.Helper()
	m := api.Model{Files: p.Files, Items: p.Notes}
	want := model.Is(m) && rules.Same(told(m), p)
	got, err := xlate.From(p)
	switch {
	case want && (err != api.OK || !model.Same(got, m)):
		t.Errorf("%s: %v, %+v, not %+v", what, err, got, m)
	case !want && (err != api.ErrImage || !reflect.DeepEqual(got, api.Model{})):
		t.Errorf("%s: %v, %+v", what, err, got)
	}
	return want
}

// P12.2: the program of a model has it back, of each model of the file's own.
func TestBack(t *testing.T) {
	for i, m := range []api.Model{of(), {Items: []api.Item{{ID: "p", Kind: api.Stage}}}, sample(), most(), of(timer("w", 3), hear("l")), of(stage("s"), task("a").in("s"))} {
		p, _ := xlate.To(m)
		if !holdBack(t, strconv.Itoa(i), p) {
			t.Error(i)
		}
		if got, _ := xlate.From(p); !model.Same(got, m) {
			t.Errorf("%+v, not %+v", got, m)
		}
	}
}

// P12.2: what is no model's program, whole.
func TestNoModels(t *testing.T) {
	alone, _ := xlate.To(of())
	other, _ := xlate.To(of(task("a")))
	for i, p := range []api.Program{
		{}, {From: 6}, {Files: []string{"f"}, Notes: of().Items}, {Flags: 10, Lasting: 4, First: []int{1}, Over: []int{2, 3}, From: 6},
		{Flags: alone.Flags, Lasting: alone.Lasting, First: alone.First, Over: alone.Over, From: 6, Files: alone.Files, Rules: alone.Rules, Notes: other.Notes},
		{Flags: other.Flags, Lasting: other.Lasting, First: other.First, Over: other.Over, From: 6, Files: other.Files, Rules: other.Rules, Users: other.Users, Notes: alone.Notes},
		{Rules: make([]api.Rule, 100000)}, {Notes: make([]api.Item, 100000)}, {Files: make([]string, 100000), Notes: of().Items},
	} {
		if holdBack(t, strconv.Itoa(i), p) {
			t.Error(i, "is one")
		}
	}
}

// P12.2: Files and Notes that make no model, though all else is as it was.
func TestNotesThatMakeNoModel(t *testing.T) {
	for i, spoil := range []func(p *api.Program){
		func(p *api.Program) { p.Notes = nil },
		func(p *api.Program) { p.Notes = p.Notes[1:] },
		func(p *api.Program) { p.Files = nil },
		func(p *api.Program) { p.Files[1] = p.Files[0] },
		func(p *api.Program) { p.Files[0] = "1" },
		func(p *api.Program) { p.Notes[0].Required = true },
		func(p *api.Program) { p.Notes[2].ID = p.Notes[1].ID },
		func(p *api.Program) { p.Notes[1].Parent = "" },
		func(p *api.Program) { p.Notes[6].Ticks = -3 },
	} {
		p, _ := xlate.To(sample())
		spoil(&p)
		if model.Is(api.Model{Files: p.Files, Items: p.Notes}) || holdBack(t, strconv.Itoa(i), p) {
			t.Error(i)
		}
	}
}

// change is one change of a program, made by do at what path tells.
type change struct {
	path string
	do   func()
}

// changes are all changes of one field, or of one row, of a thing.
func changes(path string, v reflect.Value) []change {
	var out []change
	add := func(what string, do func()) { out = append(out, change{path + what, do}) }
	switch v.Kind() {
	case reflect.Struct:
		for i := range v.NumField() {
			out = append(out, changes(path+"."+v.Type().Field(i).Name, v.Field(i))...)
		}
	case reflect.Int:
		for _, n := range []int64{1, math.MinInt} {
			add(" another number", func() { v.SetInt(v.Int() + n) })
		}
	case reflect.Bool:
		add(" turned", func() { v.SetBool(!v.Bool()) })
	case reflect.String:
		add(" another text", func() { v.SetString("z" + v.String()[min(1, v.Len()):]) })
	case reflect.Slice:
		out = append(out, rowChanges(path, v)...)
		for i := range v.Len() {
			out = append(out, changes(path+"["+strconv.Itoa(i)+"]", v.Index(i))...)
		}
	}
	return out
}

// rowChanges are those of a row's elements, how many they are and in what order.
func rowChanges(path string, v reflect.Value) []change {
	n := v.Len()
	out := []change{
		{path + " one more", func() { v.Set(reflect.Append(v, reflect.Zero(v.Type().Elem()))) }},
		{path + " one more ahead", func() {
			v.Set(reflect.AppendSlice(reflect.Append(reflect.MakeSlice(v.Type(), 0, n), reflect.Zero(v.Type().Elem())), v))
		}},
	}
	if n > 0 {
		out = append(out,
			change{path + " the last twice", func() { v.Set(reflect.Append(v, v.Index(n-1))) }},
			change{path + " without the last", func() { v.Set(v.Slice(0, n-1)) }},
			change{path + " without the first", func() { v.Set(v.Slice(1, n)) }},
			change{path + " none", func() { v.SetZero() }})
	}
	for i := 1; i < n; i++ {
		if !reflect.DeepEqual(v.Index(i-1).Interface(), v.Index(i).Interface()) {
			out = append(out, change{path + " two swapped", func() { reflect.Swapper(v.Interface())(i-1, i) }})
		}
	}
	return out
}

// P12.2: a model's program but for one thing, each field and each rule: it is
// none, but where another number of the file that nothing asks for is meant.
func TestBackButForOneThing(t *testing.T) {
	m := of(stage("s").must().enter(cond(when("f", "<", 3))), task("a").in("s").leave(wait(on("w", api.Occur), on("a", api.Exit))), timer("w", 2), hear("l"))
	mine, _ := xlate.To(m)
	want, _ := xlate.To(m)
	all := changes("", reflect.ValueOf(&mine).Elem())
	if len(all) < 1000 {
		t.Fatal(len(all))
	}
	others := map[string]int{}
	for i := range all {
		p, _ := xlate.To(m)
		x := changes("", reflect.ValueOf(&p).Elem())[i]
		x.do()
		if rules.Same(p, want) {
			t.Error("not changed:", x.path)
		}
		if holdBack(t, x.path, p) {
			others[x.path]++
			if back, _ := xlate.From(p); model.Same(back, m) {
				t.Error("the same model:", x.path)
			}
		}
	}
	// The number g stands in no If: it may be named otherwise, be none, or stand ahead.
	if len(others) != 3 || others[".Files[1] another text"] != 1 || others[".Files without the last"] != 1 || others[".Files two swapped"] != 1 {
		t.Error(others)
	}
}

// P12.2: each rule left out, doubled, or put in another one's place.
func TestBackButForARule(t *testing.T) {
	for _, m := range []api.Model{of(), sample()} {
		n := len(hold(t, m).Rules)
		for i := range n {
			for what, do := range map[string]func(p *api.Program){
				"left out": func(p *api.Program) { p.Rules = slices.Delete(p.Rules, i, i+1) },
				"doubled":  func(p *api.Program) { p.Rules = slices.Insert(p.Rules, i, p.Rules[i]) },
				"another":  func(p *api.Program) { p.Rules[i] = p.Rules[(i+1)%n] },
				"later":    func(p *api.Program) { p.Rules[i].Stratum++ },
				"no If":    func(p *api.Program) { p.Rules[i].If = append(p.Rules[i].If, api.Lit{}) },
				"no Cond":  func(p *api.Program) { p.Rules[i].Conds = append(p.Rules[i].Conds, when("f", "<", 1)) },
				"no Then":  func(p *api.Program) { p.Rules[i].Then = slices.Clone(p.Rules[i].Then[1:]) },
			} {
				p, _ := xlate.To(m)
				do(&p)
				if _, err := xlate.From(p); err != api.ErrImage {
					t.Error(i, what, err)
				}
			}
		}
	}
}

// P12.2, W5: nil rows and empty ones are the same.
func TestBackOfEmptyRows(t *testing.T) {
	m := of(task("a").enter(wait(on("a", api.Create))), task("b").leave(cond(when("f", "<", 1))))
	p, _ := xlate.To(m)
	p.Counters = []api.Counter{}
	for i := range p.Rules {
		if len(p.Rules[i].If) == 0 {
			p.Rules[i].If = []api.Lit{}
		}
		if len(p.Rules[i].Conds) == 0 {
			p.Rules[i].Conds = []api.Cond{}
		}
	}
	for i := range p.Notes {
		if len(p.Notes[i].Entry) == 0 {
			p.Notes[i].Entry = []api.Sentry{}
		}
	}
	if got, err := xlate.From(p); err != api.OK || !model.Same(got, m) {
		t.Error(err, got)
	}
}

// P12.2, W1: long texts and great numbers are none of a model's.
func TestBackOfGreatThings(t *testing.T) {
	long := strings.Repeat("x", 1<<20)
	for i, spoil := range []func(p *api.Program){
		func(p *api.Program) { p.Notes[1].ID = long },
		func(p *api.Program) { p.Files = append(p.Files, long) },
		func(p *api.Program) { p.Users[0].Item = long },
		func(p *api.Program) { p.Flags, p.Lasting = math.MaxInt, math.MinInt },
		func(p *api.Program) { p.Rules[0].Then[0].Flag = math.MaxInt },
		func(p *api.Program) { p.Rules[3].If = make([]api.Lit, 1<<20) },
		func(p *api.Program) { p.Notes[2].Ticks = math.MaxInt },
	} {
		p, _ := xlate.To(sample())
		spoil(&p)
		if holdBack(t, strconv.Itoa(i), p) {
			t.Error(i)
		}
	}
}

// P12.2: grown models, back from their programs; with some things turned, none
// or another one.
func TestBackOfGrown(t *testing.T) {
	seen := map[bool]int{}
	for seed := range 300 {
		r := rand.New(rand.NewSource(int64(seed)))
		m := grown(r)
		p, _ := xlate.To(m)
		if back, err := xlate.From(p); err != api.OK || !model.Same(back, m) {
			t.Fatalf("%v, %+v, not %+v", err, back, m)
		}
		all := changes("", reflect.ValueOf(&p).Elem())
		x := all[r.Intn(len(all))]
		if r.Intn(4) == 0 {
			some := changes(".Files", reflect.ValueOf(&p.Files).Elem())
			x = some[r.Intn(len(some))]
		}
		x.do()
		seen[holdBack(t, x.path, p)]++
	}
	if seen[true] < 10 || seen[false] < 150 {
		t.Error(seen)
	}
}
