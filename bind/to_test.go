package bind_test

import (
	"math/rand"
	"reflect"
	"strings"
	"testing"

	"sentry/api"
	"sentry/bind"
	"sentry/model"
	"sentry/space"
	"sentry/xml"
)

// P5.2: the Space is the words'.
func TestSpace(t *testing.T) {
	if bind.Space != urn {
		t.Error(bind.Space)
	}
}

// elem is an element of the Space; its attributes are names and values in turn.
func elem(local string, kids []api.Named, texts ...string) api.Named {
	n := api.Named{Space: urn, Local: local, Kids: kids}
	for i := 0; i < len(texts); i += 2 {
		n.Attrs = append(n.Attrs, api.Attr{Name: texts[i], Value: texts[i+1]})
	}
	return n
}

// normal is a tree whose lists without elements are nil.
func normal(n api.Named) api.Named {
	n = copied(n)
	for _, x := range elems(&n) {
		if len(x.Attrs) == 0 {
			x.Attrs = nil
		}
		if len(x.Kids) == 0 {
			x.Kids = nil
		}
	}
	return n
}

// P5.2: To, with attributes in the words' order and At noughts.
func TestTo(t *testing.T) {
	type row = []api.Named
	for _, x := range []struct {
		m    api.Model
		want api.Named
	}{
		{api.Model{Items: []api.Item{{ID: "a", Kind: api.Stage}}}, elem("case", row{elem("stage", nil, "id", "a")})},
		{with(), elem("case", row{elem("file", nil, "id", "f"), elem("file", nil, "id", "g"), elem("stage", nil, "id", "plan")})},
		{full(), elem("case", row{
			elem("file", nil, "id", "f"), elem("file", nil, "id", "g"),
			elem("stage", row{
				elem("stage", row{
					elem("entry", row{elem("on", nil, "item", "m", "event", "occur")}),
					elem("exit", row{elem("if", nil, "file", "f", "op", "gt", "n", "9")}),
					elem("task", row{
						elem("exit", row{elem("on", nil, "item", "s", "event", "start"), elem("on", nil, "item", "w", "event", "create"), elem("if", nil, "file", "g", "op", "le", "n", "-9"), elem("if", nil, "file", "f", "op", "ne", "n", "0")}),
					}, "id", "t"),
					elem("timer", nil, "id", "w", "ticks", "40"),
				}, "id", "s", "required", "true"),
				elem("milestone", row{
					elem("entry", row{elem("on", nil, "item", "t", "event", "complete")}),
					elem("entry", row{elem("if", nil, "file", "f", "op", "eq", "n", "1")}),
				}, "id", "m"),
				elem("listener", nil, "id", "l"),
			}, "id", "plan"),
		})},
	} {
		if n := bind.To(x.m); !reflect.DeepEqual(normal(n), x.want) {
			t.Errorf("%v, not %v", n, x.want)
		}
	}
}

// P5.2: Save, sign by sign.
func TestSave(t *testing.T) {
	// holds is a model with one task that has one exit.
	holds := func(s api.Sentry) api.Model {
		return with(api.Item{ID: "t", Kind: api.Task, Parent: "plan", Exit: []api.Sentry{s}}, api.Item{ID: "l", Kind: api.Listener, Parent: "plan"})
	}
	const head, foot = `<case xmlns="urn:sentry:case"><file id="f"/><file id="g"/><stage id="plan">`, `</stage></case>`
	held := func(s string) string {
		return head + `<task id="t"><exit>` + s + `</exit></task><listener id="l"/>` + foot
	}
	for _, x := range []struct {
		m    api.Model
		want string
	}{
		{api.Model{Items: []api.Item{{ID: "a", Kind: api.Stage}}}, `<case xmlns="urn:sentry:case"><stage id="a"/></case>`},
		{with(api.Item{ID: "a", Kind: api.Stage, Parent: "plan", Required: true}, api.Item{ID: "b", Kind: api.Milestone, Parent: "a"}), head + `<stage id="a" required="true"><milestone id="b"/></stage>` + foot},
		{with(api.Item{ID: "a", Kind: api.Timer, Parent: "plan", Ticks: 1}, api.Item{ID: "b", Kind: api.Timer, Parent: "plan", Ticks: 100}), head + `<timer id="a" ticks="1"/><timer id="b" ticks="100"/>` + foot},
		{holds(api.Sentry{On: []api.On{{Item: "plan", Event: api.Create}}}), held(`<on item="plan" event="create"/>`)},
		{holds(api.Sentry{On: []api.On{{Item: "plan", Event: api.Start}}}), held(`<on item="plan" event="start"/>`)},
		{holds(api.Sentry{On: []api.On{{Item: "t", Event: api.Complete}}}), held(`<on item="t" event="complete"/>`)},
		{holds(api.Sentry{On: []api.On{{Item: "l", Event: api.Occur}}}), held(`<on item="l" event="occur"/>`)},
		{holds(api.Sentry{On: []api.On{{Item: "l", Event: api.Exit}}}), held(`<on item="l" event="exit"/>`)},
		{holds(api.Sentry{If: []api.Cond{{File: "f", Op: "<"}, {File: "g", Op: "<=", N: -1}}}), held(`<if file="f" op="lt" n="0"/><if file="g" op="le" n="-1"/>`)},
		{holds(api.Sentry{If: []api.Cond{{File: "f", Op: "=", N: 1}, {File: "g", Op: "!=", N: 10}}}), held(`<if file="f" op="eq" n="1"/><if file="g" op="ne" n="10"/>`)},
		{holds(api.Sentry{If: []api.Cond{{File: "f", Op: ">=", N: api.MaxN}, {File: "g", Op: ">", N: -api.MaxN}}}), held(`<if file="f" op="ge" n="1000000"/><if file="g" op="gt" n="-1000000"/>`)},
	} {
		if s := bind.Save(x.m); s != x.want {
			t.Errorf("%s, not %s", s, x.want)
		}
	}
}

// again holds From of To and Load of Save against a model that may be. It
// tells whether Save is none too long.
func again(t *testing.T, m api.Model) bool {
	t.Helper()
	n := bind.To(m)
	if back, at, err := bind.From(n); at != 0 || err != api.OK || !model.Same(back, m) {
		t.Fatalf("%v: %v, place %d, error %d", m, back, at, err)
	}
	for _, x := range elems(&n) {
		if x.At != 0 || x.Space != urn {
			t.Fatalf("%v: %v", m, x)
		}
	}
	s := bind.Save(m)
	if s != xml.Print(space.Plain(n)) || s != written(m) {
		t.Fatalf("%s, not %s", s, written(m))
	}
	back, at, err := bind.Load(s)
	if len(s) > api.MaxDoc {
		if at != 0 || err != api.ErrLong || !reflect.DeepEqual(back, api.Model{}) {
			t.Fatalf("%s: %d %d", s, at, err)
		}
		return false
	}
	if at != len(s) || err != api.OK || !model.Same(back, m) || bind.Save(back) != s {
		t.Fatalf("%v: %s: %v, %d, error %d", m, s, back, at, err)
	}
	return true
}

// P5.3: From of To is it; Load of Save is it, unless it is too long.
func TestAgain(t *testing.T) {
	r := rand.New(rand.NewSource(3))
	for _, most := range []int{1, 4, api.MaxItems} {
		short := 0
		for range 3000 {
			if again(t, grown(r, most)) {
				short++
			}
		}
		if short < 1000 {
			t.Error(most, short)
		}
	}
	again(t, full())
	if again(t, fullest()) {
		t.Error("the greatest model is no longer than a text may be")
	}
}

// fullest is a model of which there is no more.
func fullest() api.Model {
	m := api.Model{Items: []api.Item{{ID: "plan", Kind: api.Stage}}}
	for _, c := range "uvwxyz" {
		m.Files = append(m.Files, strings.Repeat(string(c), api.MaxName))
	}
	last := "plan"
	for i := range api.MaxItems - 1 {
		item := api.Item{ID: strings.Repeat(string(rune('a'+i)), api.MaxName), Kind: api.Stage, Parent: last, Required: true}
		if i < api.MaxStages-1 {
			last = item.ID
		}
		s := api.Sentry{If: []api.Cond{{File: m.Files[0], Op: "!=", N: -api.MaxN}, {File: m.Files[5], Op: ">=", N: -api.MaxN}}}
		for _, event := range []int{api.Complete, api.Create, api.Start} {
			s.On = append(s.On, api.On{Item: item.ID, Event: event})
		}
		item.Entry, item.Exit = []api.Sentry{s, s, s}, []api.Sentry{s, s, s}
		m.Items = append(m.Items, item)
	}
	return m
}

// W5: rows that are nil and rows without elements are one.
func TestToOfEmptyRows(t *testing.T) {
	m := full()
	for i := range m.Items {
		if len(m.Items[i].Entry) == 0 {
			m.Items[i].Entry = []api.Sentry{}
		}
		for j := range m.Items[i].Exit {
			if s := &m.Items[i].Exit[j]; len(s.On) == 0 {
				s.On = []api.On{}
			}
		}
	}
	if bind.Save(m) != bind.Save(full()) {
		t.Error(bind.Save(m))
	}
	m = api.Model{Files: []string{}, Items: []api.Item{{ID: "a", Kind: api.Stage, Exit: []api.Sentry{}}}}
	if s := bind.Save(m); s != `<case xmlns="urn:sentry:case"><stage id="a"/></case>` {
		t.Error(s)
	}
}

// W1: models that may not be end without a panic: those without a plan, with a
// Parent that stands in itself, of no kind, without number.
func TestToOfAnyModel(t *testing.T) {
	great := with()
	for range 1 << 16 {
		great.Items = append(great.Items, api.Item{ID: "plan", Kind: api.Stage, Parent: "plan"})
	}
	for _, m := range []api.Model{
		{}, {Files: []string{"f"}}, {Items: []api.Item{{}}}, {Items: []api.Item{{}, {}}}, great,
		{Items: []api.Item{{ID: "a", Kind: api.Stage, Parent: "a"}}},
		{Items: []api.Item{{ID: "a", Kind: api.Stage, Parent: "b"}, {ID: "b", Kind: api.Stage, Parent: "a"}}},
		{Items: []api.Item{{ID: "a", Kind: api.Stage}, {ID: "b", Kind: 99, Parent: "a", Ticks: -1 << 63}}},
		{Items: []api.Item{{ID: "a", Kind: api.Stage}, {ID: "b", Kind: api.Timer, Parent: "a", Ticks: 1 << 62}}},
		with(api.Item{ID: "t", Kind: api.Task, Parent: "plan", Exit: []api.Sentry{{On: []api.On{{Item: "\xff", Event: 99}}, If: []api.Cond{{Op: "?", N: -1 << 63}}}}}),
	} {
		bind.To(m)
		bind.Save(m)
	}
}

// W2, W7: what is answered is the same each time, and stays.
func TestAnswersStay(t *testing.T) {
	r := rand.New(rand.NewSource(9))
	m := full()
	n, s := bind.To(m), bind.Save(m)
	kept := copied(n)
	loaded, _, _ := bind.Load(s)
	for range 200 {
		other := grown(r, 5)
		bind.Load(bind.Save(other))
		bind.From(bind.To(other))
	}
	if !reflect.DeepEqual(n, kept) || !reflect.DeepEqual(bind.To(m), kept) || bind.Save(m) != s || !model.Same(loaded, full()) {
		t.Error("an answer is another one later")
	}
}
