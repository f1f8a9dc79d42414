package model_test

import (
	"math/rand"
	"reflect"
	"slices"
	"strconv"
	"strings"
	"testing"

	"sentry/api"
	"sentry/model"
)

// P4.2: Place is the first of an ID's items, or -1.
func TestPlace(t *testing.T) {
	m := sample()
	for want, id := range []string{"plan", "outer", "inner", "task", "mile", "hear", "time"} {
		if got := model.Place(m, id); got != want {
			t.Errorf("Place of %s is %d", id, got)
		}
	}
	for _, id := range []string{"", "zz", "Plan", "plan ", "pla", "f", "\xff", strings.Repeat("plan", 1<<18)} {
		if got := model.Place(m, id); got != -1 {
			t.Errorf("Place of %.20q is %d", id, got)
		}
	}
	for _, m := range []api.Model{{}, {Items: []api.Item{}}, {Files: []string{"plan"}}} {
		if model.Place(m, "plan") != -1 || model.Place(m, "") != -1 {
			t.Errorf("a place in %v", m)
		}
	}
	// Nothing is asked of the model: an ID may be none, or stand twice.
	twice := api.Model{Items: []api.Item{{ID: "a"}, {ID: "b", Parent: "c"}, {ID: ""}, {ID: "b"}, {ID: "a"}, {ID: ""}, {ID: "c"}}}
	for id, want := range map[string]int{"a": 0, "b": 1, "": 2, "c": 6} {
		if got := model.Place(twice, id); got != want {
			t.Errorf("Place of %q, twice, is %d", id, got)
		}
	}
}

// P4.2: Kids are the places of all items with a Parent, rising.
func TestKids(t *testing.T) {
	for id, want := range map[string][]int{"plan": {1, 5, 6}, "outer": {2, 4}, "inner": {3}, "": {0}, "task": nil, "time": nil, "zz": nil, "Plan": nil, "f": nil} {
		if got := model.Kids(sample(), id); !slices.Equal(got, want) {
			t.Errorf("Kids of %q are %v", id, got)
		}
	}
	if len(model.Kids(api.Model{}, "")) != 0 || len(model.Kids(api.Model{Items: []api.Item{}}, "a")) != 0 {
		t.Error("Kids in a model without items")
	}
	// Nothing is asked of the model: a Parent may stand twice, be no Stage,
	// stand behind its Kids, be its own, or not be there.
	odd := api.Model{Items: []api.Item{{ID: "a", Parent: "b"}, {ID: "b", Parent: "b"}, {ID: "a", Parent: "gone"}, {ID: "b", Kind: api.Timer}, {ID: "c", Parent: "a"}, {ID: "d", Parent: "b"}, {ID: "e", Parent: "gone"}}}
	for id, want := range map[string][]int{"a": {4}, "b": {0, 1, 5}, "gone": {2, 6}, "": {3}, "c": nil} {
		if got := model.Kids(odd, id); !slices.Equal(got, want) {
			t.Errorf("Kids of %q are %v", id, got)
		}
	}
}

// P4.2: long rows.
func TestPlacesInLongRows(t *testing.T) {
	const n = 1 << 20
	m := api.Model{Items: make([]api.Item, n)}
	for i := range n {
		m.Items[i] = api.Item{ID: "i" + strconv.Itoa(i), Parent: "p" + strconv.Itoa(i%2)}
	}
	kids := model.Kids(m, "p1")
	if model.Place(m, "i"+strconv.Itoa(n-1)) != n-1 || len(kids) != n/2 || kids[0] != 1 || kids[n/2-1] != n-1 || !slices.IsSorted(kids) {
		t.Error(len(kids))
	}
	if c := model.Copy(m); !model.Same(c, m) {
		t.Error("Copy")
	}
}

// visit is one thing within another one: what it is called, and the thing, that may be turned.
type visit struct {
	path string
	v    reflect.Value
}

// visits are all fields and elements of a thing, at whatever depth.
func visits(path string, v reflect.Value) []visit {
	out := []visit{{path, v}}
	switch v.Kind() {
	case reflect.Struct:
		for i := range v.NumField() {
			out = append(out, visits(path+"."+v.Type().Field(i).Name, v.Field(i))...)
		}
	case reflect.Slice:
		for i := range v.Len() {
			out = append(out, visits(path+"["+strconv.Itoa(i)+"]", v.Index(i))...)
		}
	}
	return out
}

// turns are ways to turn a thing into another one; none for a struct, whose fields are turned by themselves.
func turns(v reflect.Value) []func() {
	switch v.Kind() {
	case reflect.String:
		return []func(){
			func() { v.SetString(v.String() + "x") },
			func() { v.SetString(strings.ToUpper(v.String()) + " ") },
		}
	case reflect.Int:
		return []func(){
			func() { v.SetInt(v.Int() + 1) },
			func() { v.SetInt(v.Int() - 1) },
			func() { v.SetInt(v.Int() + 1<<32) },
		}
	case reflect.Bool:
		return []func(){func() { v.SetBool(!v.Bool()) }}
	case reflect.Slice:
		longer := func() { v.Set(reflect.Append(v, reflect.Zero(v.Type().Elem()))) }
		if v.Len() == 0 {
			return []func(){longer}
		}
		return []func(){
			longer,
			func() { v.Set(reflect.Append(v, v.Index(v.Len()-1))) },
			func() { v.Set(v.Slice(0, v.Len()-1)) },
			func() { v.Set(v.Slice(1, v.Len())) },
			func() { v.SetZero() },
		}
	}
	return nil
}

// holdTurns turns each field and each element of what two calls of make
// answer, alone, and asks whether the two are still one.
func holdTurns[T any](t *testing.T, make func() T, same func(a, b T) bool) int {
	t.Helper()
	count := 0
	first := make()
	for i, x := range visits("", reflect.ValueOf(&first).Elem()) {
		for k := range turns(x.v) {
			a, b := make(), make()
			turns(visits("", reflect.ValueOf(&b).Elem())[i].v)[k]()
			if same(a, b) || same(b, a) {
				t.Errorf("turn %d of %s makes no difference", k, x.path)
			}
			if !same(b, b) {
				t.Errorf("turn %d of %s: it is not itself", k, x.path)
			}
			count++
		}
	}
	return count
}

// P4.2: Same, SameItem, SameSentries where one field alone differs, for each field.
func TestSameByFields(t *testing.T) {
	if n := holdTurns(t, sample, model.Same); n < 250 {
		t.Error(n)
	}
	for i := range sample().Items {
		holdTurns(t, func() api.Item { return sample().Items[i] }, model.SameItem)
		holdTurns(t, func() []api.Sentry { return sample().Items[i].Entry }, model.SameSentries)
		holdTurns(t, func() []api.Sentry { return sample().Items[i].Exit }, model.SameSentries)
	}
	holdTurns(t, func() api.Item { return api.Item{} }, model.SameItem)
}

// P4.2: in which field, and in which order a thing stands counts.
func TestSameByOrder(t *testing.T) {
	for i, do := range []func(m *api.Model){
		func(m *api.Model) { slices.Reverse(m.Files) },
		func(m *api.Model) { slices.Reverse(m.Items) },
		func(m *api.Model) { slices.Reverse(item(m, "mile").Entry) },
		func(m *api.Model) { slices.Reverse(item(m, "mile").Entry[0].On) },
		func(m *api.Model) { slices.Reverse(item(m, "mile").Entry[1].If) },
		func(m *api.Model) { x := item(m, "mile"); x.Entry, x.Exit = x.Exit, x.Entry },
		func(m *api.Model) { x := item(m, "task"); x.Entry, x.Exit = x.Exit, x.Entry },
		func(m *api.Model) { x := item(m, "task"); x.ID, x.Parent = x.Parent, x.ID },
		func(m *api.Model) { x := item(m, "time"); x.Kind, x.Ticks = x.Ticks, x.Kind },
		func(m *api.Model) { x := &item(m, "mile").Exit[1].If[0]; x.File, x.Op = x.Op, x.File },
	} {
		m := sample()
		do(&m)
		if model.Same(m, sample()) || model.Same(sample(), m) {
			t.Error(i)
		}
	}
	// On of one sentry are not those of two.
	a, b := api.On{Item: "a", Event: 1}, api.On{Item: "b", Event: 1}
	for _, x := range [][2][]api.Sentry{
		{{on(a, b)}, {on(a), on(b)}}, {{on(a), {}}, {{}, on(a)}}, {{on(a)}, {on(a), {}}}, {nil, {{}}}, {{{}}, {{}, {}}}, {{on(a)}, {when(api.Cond{File: "a", N: 1})}},
	} {
		if model.SameSentries(x[0], x[1]) || model.SameSentries(x[1], x[0]) {
			t.Errorf("%v", x)
		}
	}
}

// P4.2: a row that is nil and one that is empty are one, wherever they stand.
func TestSameOfNilAndEmpty(t *testing.T) {
	m := sample()
	m.Files = nil
	bare := func() api.Model { return model.Copy(m) }
	count := 0
	first := bare()
	for i, x := range visits("", reflect.ValueOf(&first).Elem()) {
		if x.v.Kind() != reflect.Slice || x.v.Len() > 0 {
			continue
		}
		count++
		null, empty := bare(), bare()
		v := visits("", reflect.ValueOf(&null).Elem())[i].v
		v.SetZero()
		v = visits("", reflect.ValueOf(&empty).Elem())[i].v
		v.Set(reflect.MakeSlice(v.Type(), 0, 3))
		if !model.Same(null, empty) || !model.Same(empty, null) || model.Is(null) != model.Is(empty) {
			t.Errorf("%s: nil and empty are two", x.path)
		}
	}
	if count < 10 {
		t.Error(count)
	}
	if !model.Same(api.Model{}, api.Model{Files: []string{}, Items: []api.Item{}}) || !model.SameItem(api.Item{}, api.Item{Entry: []api.Sentry{}, Exit: []api.Sentry{}}) ||
		!model.SameSentries(nil, []api.Sentry{}) || !model.SameSentries([]api.Sentry{}, nil) || !model.SameSentries([]api.Sentry{{}}, []api.Sentry{{On: []api.On{}, If: []api.Cond{}}}) {
		t.Error("nil and empty are two")
	}
}

// P4.2: Copy is the same, of models that may be and of others, and what is told of it too.
func TestCopy(t *testing.T) {
	r := rand.New(rand.NewSource(8))
	models := []api.Model{sample(), {}, {Files: []string{}, Items: []api.Item{}}, {Files: []string{"", "", "\xff"}, Items: []api.Item{{}, {Kind: -1, Ticks: -1 << 63, Entry: []api.Sentry{{}, {On: []api.On{{}}, If: []api.Cond{{}}}}, Exit: []api.Sentry{{}}}}}}
	for range 2000 {
		m := grown(r)
		models = append(models, m)
		bad := model.Copy(m)
		spoil(r, &bad)
		models = append(models, bad)
	}
	for _, m := range models {
		c := model.Copy(m)
		if !model.Same(c, m) || !model.Same(m, c) || model.Is(c) != model.Is(m) {
			t.Fatalf("Copy of %v is %v", m, c)
		}
	}
	// Held without Same, too: the sample has no row that is empty and not nil.
	if c := model.Copy(sample()); !reflect.DeepEqual(c, sample()) {
		t.Errorf("%v", c)
	}
}
