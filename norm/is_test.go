package norm_test

import (
	"math/rand"
	"slices"
	"strings"
	"testing"

	"sentry/api"
	"sentry/model"
	"sentry/norm"
)

// item is the item of an ID.
func item(m *api.Model, id string) *api.Item {
	return &m.Items[model.Place(*m, id)]
}

// swap makes two elements of a row change places.
func swap[T any](row []T, i, k int) { row[i], row[k] = row[k], row[i] }

// turn is one change of the sorted model.
type turn struct {
	what string
	do   func(m *api.Model)
}

// disorders are changes behind which it may be, but is in no order.
func disorders() []turn {
	return []turn{
		{"two Files", func(m *api.Model) { swap(m.Files, 0, 1) }},
		{"the last Files", func(m *api.Model) { swap(m.Files, 4, 5) }},
		{"a File at the end", func(m *api.Model) { m.Files = append(slices.Delete(m.Files, 1, 2), "_") }},
		{"a new File behind", func(m *api.Model) { m.Files[5] = "G" }},
		{"a File that begins the one ahead", func(m *api.Model) { m.Files[4], m.Files[5] = "f1.x", "f1" }},
		{"two kids", func(m *api.Model) { swap(m.Items, 4, 5) }},
		{"a kid and a stage", func(m *api.Model) { m.Items = slices.Concat(m.Items[:2], m.Items[3:6], m.Items[2:3], m.Items[6:]) }},
		{"two stages of the plan", func(m *api.Model) { m.Items = slices.Concat(m.Items[:6], m.Items[8:], m.Items[6:8]) }},
		{"the first stage last", func(m *api.Model) { m.Items = slices.Concat(m.Items[:1], m.Items[6:], m.Items[1:6]) }},
		{"an ID that is no more ahead of the next", func(m *api.Model) { item(m, "B").ID = "a0"; item(m, "D").Entry[0].On[0].Item = "a0" }},
		{"an item that goes up", func(m *api.Model) { item(m, "_").Parent = "b"; item(m, "z").ID = "A"; m.Items[4].Parent = "A" }},
		{"On of another Item", func(m *api.Model) { swap(item(m, "D").Entry[0].On, 0, 1) }},
		{"On of another Event", func(m *api.Model) { swap(item(m, "b").Exit[1].On, 1, 2) }},
		{"On, an Event that is less", func(m *api.Model) {
			item(m, "b").Exit[1].On[1].Event = api.Exit
			item(m, "b").Exit[1].On[2].Event = api.Start
		}},
		{"If", func(m *api.Model) { swap(item(m, "b").Exit[0].If, 0, 1) }},
		{"If by Op", func(m *api.Model) { item(m, "b").Exit[0].If[1] = api.Cond{File: "F", Op: "<=", N: 1} }},
		{"If by N", func(m *api.Model) { item(m, "b").Exit[0].If[1] = api.Cond{File: "F", Op: "=", N: -1} }},
		{"an If twice", func(m *api.Model) { s := &item(m, "b").Exit[0]; s.If[1] = s.If[0] }},
		{"an If twice, in one that has but one", func(m *api.Model) { s := &item(m, "z").Entry[1]; s.If = append(s.If, s.If[0]) }},
		{"Entry", func(m *api.Model) { swap(item(m, "z").Entry, 0, 1) }},
		{"Entry, the last ones", func(m *api.Model) { swap(item(m, "z").Entry, 1, 2) }},
		{"Entry, an N", func(m *api.Model) { item(m, "z").Entry[1].If[0].N = -3 }},
		{"Exit", func(m *api.Model) { swap(item(m, "b").Exit, 0, 1) }},
		{"a sentry of Entry twice", func(m *api.Model) { x := item(m, "z"); x.Entry[1] = x.Entry[0] }},
		{"a sentry of Entry thrice", func(m *api.Model) { x := item(m, "z"); x.Entry[1], x.Entry[2] = x.Entry[0], x.Entry[0] }},
		{"a sentry of Exit twice", func(m *api.Model) { x := item(m, "b"); x.Exit[1] = x.Exit[0] }},
		{"the only sentry twice", func(m *api.Model) { x := item(m, "a"); x.Entry = append(x.Entry, x.Entry[0]) }},
	}
}

// wrongs are changes behind which it may not be, though all that has an order is in it.
func wrongs() []turn {
	return []turn{
		{"no items", func(m *api.Model) { m.Items = nil }},
		{"a kind that there is not", func(m *api.Model) { item(m, "C").Kind = 9 }},
		{"no Ticks", func(m *api.Model) { item(m, "_").Ticks = 0 }},
		{"Ticks of a task", func(m *api.Model) { item(m, "C").Ticks = 1 }},
		{"a plan with an Exit", func(m *api.Model) { m.Items[0].Exit = []api.Sentry{on(api.On{Item: "a", Event: api.Create})} }},
		{"a Required plan", func(m *api.Model) { m.Items[0].Required = true }},
		{"a Required timer", func(m *api.Model) { item(m, "_").Required = true }},
		{"a Parent that there is not", func(m *api.Model) { item(m, "C").Parent = "q" }},
		{"a Parent that is no Stage", func(m *api.Model) { item(m, "d").Kind = api.Task }},
		{"a File twice", func(m *api.Model) { m.Files[1] = m.Files[0] }},
		{"a File that is no name", func(m *api.Model) { m.Files[0] = "" }},
		{"a File too many", func(m *api.Model) { m.Files = append(m.Files, "g") }},
		{"an ID twice", func(m *api.Model) { item(m, "C").ID = "a" }},
		{"an ID that is no name", func(m *api.Model) { item(m, "C").ID = "C C" }},
		{"a sentry without anything", func(m *api.Model) { item(m, "a").Entry = []api.Sentry{{}} }},
		{"an event that is not Legal", func(m *api.Model) { item(m, "a").Entry[0].On[0].Event = api.Occur }},
		{"an On of none", func(m *api.Model) { item(m, "a").Entry[0].On[0].Item = "q" }},
		{"an On twice", func(m *api.Model) { row := item(m, "b").Exit[1].On; row[2] = row[1] }},
		{"an If of none", func(m *api.Model) { item(m, "b").Exit[0].If[1].File = "q" }},
		{"an Op that there is not", func(m *api.Model) { item(m, "b").Exit[0].If[1].Op = "==" }},
		{"an N that is too great", func(m *api.Model) { item(m, "b").Exit[0].If[1].N = api.MaxN + 1 }},
		{"sentries too many", func(m *api.Model) {
			x := item(m, "z")
			x.Entry = append(x.Entry, both(api.On{Item: "z", Event: api.Start}, api.Cond{File: "f", Op: "=", N: 1}))
		}},
	}
}

// others are models that may not be.
func others() []api.Model {
	out := []api.Model{{}, {Files: []string{"a", "b"}}, {Files: []string{}, Items: []api.Item{}}, {Items: []api.Item{{}}}, {Items: []api.Item{{ID: "a", Kind: api.Stage, Parent: "a"}}}, {Items: []api.Item{{ID: "a", Kind: api.Stage, Parent: "b"}, {ID: "b", Kind: api.Stage, Parent: "a"}}}}
	for _, x := range wrongs() {
		m := model.Copy(sorted())
		x.do(&m)
		out = append(out, m)
	}
	return out
}

// P7.1: Is of one that is in order, and of each that is not by one thing alone.
func TestIsOfDisorder(t *testing.T) {
	if !norm.Is(sorted()) || !norm.Is(model.Copy(sorted())) {
		t.Error("the sorted model is in no order")
	}
	for _, x := range disorders() {
		m := model.Copy(sorted())
		x.do(&m)
		if !model.Is(m) {
			t.Errorf("%s: it may not be", x.what)
			continue
		}
		if norm.Is(m) {
			t.Errorf("%s: it is in order", x.what)
		}
		holdNormal(t, x.what, m, ordered(m))
	}
}

// P7.1: Is of models that are in order, of others than the sorted one.
func TestIsOfOrder(t *testing.T) {
	for _, do := range []func(m *api.Model){
		func(m *api.Model) { m.Files = append(m.Files[:2], m.Files[2]) },
		func(m *api.Model) { m.Files[3], m.Files[4], m.Files[5] = "f0", "f00", "f01" },
		func(m *api.Model) { m.Items[0].ID = "zzz"; retitle(m, "m", "zzz") },
		func(m *api.Model) { item(m, "C").Required = false },
		func(m *api.Model) { item(m, "_").Ticks = 100 },
		func(m *api.Model) { item(m, "a").Entry = nil },
		func(m *api.Model) { item(m, "a").Exit = item(m, "a").Entry },
		func(m *api.Model) { item(m, "z").Entry[0].If[0].N = 0 },
		func(m *api.Model) { m.Items = append(m.Items, api.Item{ID: "e", Kind: api.Task, Parent: "m"}) },
		func(m *api.Model) { m.Items = append(m.Items, api.Item{ID: "E", Kind: api.Task, Parent: "d"}) },
	} {
		m := model.Copy(sorted())
		do(&m)
		if !norm.Is(m) {
			t.Errorf("%v is in no order", m)
		}
		holdNormal(t, "in order", m, m)
	}
}

// retitle gives all that names an item its new ID.
func retitle(m *api.Model, id, to string) {
	for i := range m.Items {
		if m.Items[i].Parent == id {
			m.Items[i].Parent = to
		}
		for _, s := range slices.Concat(m.Items[i].Entry, m.Items[i].Exit) {
			for k := range s.On {
				s.On[k].Item = strings.ReplaceAll(s.On[k].Item, id, to)
			}
		}
	}
}

// P7.1: Is of a model that may not be is false, even where its rows are in order.
func TestIsOfOthers(t *testing.T) {
	for i, m := range others() {
		if model.Is(m) {
			t.Errorf("%d: %v may be", i, m)
		}
		if norm.Is(m) {
			t.Errorf("%d: %v is in order", i, m)
		}
	}
}

// P7.1: Is of any model, against the oracle.
func TestIsOfAny(t *testing.T) {
	r := rand.New(rand.NewSource(77))
	count := map[bool]int{}
	for range 20000 {
		m := grown(r)
		if pick(r, true, false) {
			m = ordered(m)
		}
		if pick(r, true, false) {
			spoil(r, &m)
		}
		want := model.Is(m) && model.Same(ordered(m), m)
		if norm.Is(m) != want {
			t.Fatalf("%v: not %v", m, want)
		}
		count[want]++
	}
	if count[true] < 4000 || count[false] < 4000 {
		t.Error(count)
	}
}

// spoil turns one thing of a model, often into one that may not be.
func spoil(r *rand.Rand, m *api.Model) {
	i := r.Intn(len(m.Items))
	x := &m.Items[i]
	switch r.Intn(9) {
	case 0:
		m.Files = append(m.Files, pick(r, "z", "A", "", "1"))
	case 1:
		x.ID = pick(r, "zz", "A", "x1", "")
	case 2:
		x.Kind = r.Intn(7)
	case 3:
		x.Parent = pick(r, "", "q", x.ID, m.Items[r.Intn(len(m.Items))].ID)
	case 4:
		x.Required = !x.Required
	case 5:
		x.Ticks = pick(r, -1, 0, 1, api.MaxTicks+1)
	case 6:
		swap(m.Items, i, r.Intn(len(m.Items)))
	case 7:
		m.Items = slices.Delete(slices.Clone(m.Items), i, i+1)
	case 8:
		row := pick(r, &x.Entry, &x.Exit)
		*row = append(slices.Clip(*row), anySentry(r))
	}
}

// W5: a nil list and an empty one are the same in a model, too.
func TestIsOfNilAndEmpty(t *testing.T) {
	m := model.Copy(sorted())
	m.Files = []string{}
	for i := range m.Items {
		m.Items[i].Entry, m.Items[i].Exit = []api.Sentry{}, []api.Sentry{}
	}
	item(&m, "D").Exit = []api.Sentry{{On: []api.On{{Item: "a", Event: api.Create}}, If: []api.Cond{}}}
	if !norm.Is(m) {
		t.Errorf("%v is in no order", m)
	}
	holdNormal(t, "empty lists", m, m)
}
