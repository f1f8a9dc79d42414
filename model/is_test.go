package model_test

import (
	"math"
	"math/rand"
	"slices"
	"strconv"
	"strings"
	"testing"

	"sentry/api"
	"sentry/model"
)

// sample is a model that has all there is; it may be.
func sample() api.Model {
	return api.Model{
		Files: []string{"f", "g"},
		Items: []api.Item{
			{ID: "plan", Kind: api.Stage},
			{ID: "outer", Kind: api.Stage, Parent: "plan", Required: true, Exit: []api.Sentry{{If: []api.Cond{{File: "f", Op: ">=", N: 5}}}}},
			{ID: "inner", Kind: api.Stage, Parent: "outer", Entry: []api.Sentry{{On: []api.On{{Item: "outer", Event: api.Start}}}}},
			{ID: "task", Kind: api.Task, Parent: "inner", Required: true, Entry: []api.Sentry{{On: []api.On{{Item: "task", Event: api.Create}}}}},
			{ID: "mile", Kind: api.Milestone, Parent: "outer", Required: true,
				Entry: []api.Sentry{
					{On: []api.On{{Item: "task", Event: api.Complete}, {Item: "hear", Event: api.Occur}}},
					{On: []api.On{{Item: "time", Event: api.Exit}}, If: []api.Cond{{File: "g", Op: "!=", N: -7}, {File: "f", Op: "<"}}},
				},
				Exit: []api.Sentry{{On: []api.On{{Item: "mile", Event: api.Create}}}, {If: []api.Cond{{File: "g", Op: "=", N: 2}}}}},
			{ID: "hear", Kind: api.Listener, Parent: "plan", Exit: []api.Sentry{{On: []api.On{{Item: "plan", Event: api.Complete}}, If: []api.Cond{{File: "g", Op: "<=", N: 1}}}}},
			{ID: "time", Kind: api.Timer, Parent: "plan", Ticks: 3, Exit: []api.Sentry{{If: []api.Cond{{File: "f", Op: ">", N: 9}}}}},
		},
	}
}

// item is the item of an ID.
func item(m *api.Model, id string) *api.Item {
	for i := range m.Items {
		if m.Items[i].ID == id {
			return &m.Items[i]
		}
	}
	panic("no item " + id)
}

// one is a model of the plan alone, but for what is added.
func one(more ...api.Item) api.Model {
	return api.Model{Files: []string{"f"}, Items: append([]api.Item{{ID: "plan", Kind: api.Stage}}, more...)}
}

// on is a sentry that waits for these.
func on(row ...api.On) api.Sentry { return api.Sentry{On: row} }

// when is a sentry that asks these.
func when(row ...api.Cond) api.Sentry { return api.Sentry{If: row} }

// hold holds Is against what it must answer, and against the oracle.
func hold(t *testing.T, what string, m api.Model, want bool) {
	t.Helper()
	if model.Is(m) != want {
		t.Errorf("%s: %v, not %v", what, !want, want)
	}
	if mayBe(m) != want {
		t.Errorf("%s: the oracle says %v", what, !want)
	}
}

// numbered are items of these kind and parent.
func numbered(n, kind int, parent string) []api.Item {
	var out []api.Item
	for i := range n {
		out = append(out, api.Item{ID: "n" + strconv.Itoa(i), Kind: kind, Parent: parent})
	}
	return out
}

// P4.1: every kind with every event, and numbers that are none, near and far.
func TestLegal(t *testing.T) {
	numbers := []int{math.MinInt, -1 << 32, -256, 256, 257, 260, 1 << 32, 1<<32 + 1, 1<<32 + 5, math.MaxInt}
	for n := -10; n <= 10; n++ {
		numbers = append(numbers, n)
	}
	count := 0
	for _, kind := range numbers {
		for _, event := range numbers {
			want := slices.Contains(legalOf[kind], event)
			if model.Legal(kind, event) != want {
				t.Errorf("Legal(%d, %d) is not %v", kind, event, want)
			}
			if want {
				count++
			}
		}
	}
	if count != 17 || model.Legal(api.Milestone, api.Start) {
		t.Error(count)
	}
}

// P4.1: models that may be.
func TestIsOrdinary(t *testing.T) {
	hold(t, "sample", sample(), true)
	hold(t, "a plan", api.Model{Items: []api.Item{{ID: "a", Kind: api.Stage}}}, true)
	hold(t, "nothing", api.Model{}, false)
	hold(t, "Files alone", api.Model{Files: []string{"f"}}, false)
	hold(t, "no items", api.Model{Items: []api.Item{}}, false)
	m := sample()
	m.Files = append(m.Files, "plan", "task")
	hold(t, "Files that are named as items", m, true)
	m = sample()
	m.Items[0].Entry, m.Items[0].Exit = []api.Sentry{}, []api.Sentry{}
	item(&m, "time").Entry, item(&m, "hear").Entry = []api.Sentry{}, []api.Sentry{}
	hold(t, "empty rows", m, true)
}

// P4.1: how many there may be, each number just reached and just passed.
func TestIsHowMany(t *testing.T) {
	for n := range 3 * api.MaxItems {
		m := one(numbered(n, api.Task, "plan")...)
		hold(t, "items "+strconv.Itoa(n+1), m, n+1 <= api.MaxItems)
		m = one()
		m.Files = nil
		for i := range n {
			m.Files = append(m.Files, "f"+strconv.Itoa(i))
		}
		hold(t, "files "+strconv.Itoa(n), m, n <= api.MaxFiles)
		var sentries []api.Sentry
		var cond []api.Cond
		for range n {
			sentries = append(sentries, on(api.On{Item: "plan", Event: api.Exit}))
			cond = append(cond, api.Cond{File: "f", Op: "="})
		}
		hold(t, "entries "+strconv.Itoa(n), one(api.Item{ID: "a", Kind: api.Task, Parent: "plan", Entry: sentries}), n <= api.MaxSentries)
		hold(t, "exits "+strconv.Itoa(n), one(api.Item{ID: "a", Kind: api.Timer, Parent: "plan", Ticks: 1, Exit: sentries}), n <= api.MaxSentries)
		hold(t, "conditions "+strconv.Itoa(n), one(api.Item{ID: "a", Kind: api.Task, Parent: "plan", Exit: []api.Sentry{when(cond...)}}), 1 <= n && n <= api.MaxIf)
	}
	var row []api.On
	for _, event := range []int{api.Create, api.Start, api.Complete, api.Exit} {
		row = append(row, api.On{Item: "plan", Event: event})
		hold(t, "events "+strconv.Itoa(len(row)), one(api.Item{ID: "a", Kind: api.Task, Parent: "plan", Entry: []api.Sentry{on(row...)}}), len(row) <= api.MaxOn)
	}
	// As many as there may be of all of it, at once.
	full := on(row[:api.MaxOn]...)
	full.If = []api.Cond{{File: "f", Op: "="}, {File: "f", Op: "="}}
	m := one(numbered(api.MaxItems-1, api.Task, "plan")...)
	for i := 1; i < api.MaxItems; i++ {
		m.Items[i].Entry, m.Items[i].Exit = []api.Sentry{full, full, full}, []api.Sentry{full, full, full}
	}
	m.Files = []string{"f", "a", "b", "c", "d", "e"}
	hold(t, "all of it", m, true)
}

// P4.1: Stages within one another, and what stands in the innermost.
func TestIsHowDeep(t *testing.T) {
	for deep := range api.MaxItems {
		m := one()
		for i := range deep {
			m.Items = append(m.Items, api.Item{ID: "s" + strconv.Itoa(i), Kind: api.Stage, Parent: m.Items[i].ID})
		}
		hold(t, "stages in "+strconv.Itoa(deep), m, deep <= api.MaxStages)
		for _, kind := range []int{api.Task, api.Milestone, api.Listener, api.Timer} {
			if deep == 0 {
				continue
			}
			m.Items[deep].Kind, m.Items[deep].Ticks = kind, 0
			if kind == api.Timer {
				m.Items[deep].Ticks = 1
			}
			hold(t, "items in "+strconv.Itoa(deep), m, deep <= api.MaxStages)
		}
	}
	// Beside one another there may be as many as there are items.
	hold(t, "stages in a row", one(numbered(api.MaxItems-1, api.Stage, "plan")...), true)
	// Behind the deepest one, others may stand as deep.
	m := one()
	for i := range api.MaxStages {
		m.Items = append(m.Items, api.Item{ID: "s" + strconv.Itoa(i), Kind: api.Stage, Parent: m.Items[i].ID})
	}
	m.Items = append(m.Items, numbered(5, api.Task, "s3")...)
	hold(t, "a row as deep", m, true)
	m.Items = append(m.Items, api.Item{ID: "back", Kind: api.Stage, Parent: "s0"}, api.Item{ID: "again", Kind: api.Stage, Parent: "back"})
	hold(t, "deep again", m, true)
	m.Items[len(m.Items)-1].Parent = "s4"
	hold(t, "in one that has ended", m, false)
}

// P4.1: numbers at their edges.
func TestIsNumbers(t *testing.T) {
	for _, n := range []int{math.MinInt, -api.MaxN, -2, -1, 0, 1, 2, api.MaxTicks - 1, api.MaxTicks, api.MaxTicks + 1, 256 + 1, 1<<32 + 1, math.MaxInt} {
		hold(t, "ticks "+strconv.Itoa(n), one(api.Item{ID: "a", Kind: api.Timer, Parent: "plan", Ticks: n}), 1 <= n && n <= api.MaxTicks)
		for _, kind := range []int{api.Stage, api.Task, api.Milestone, api.Listener} {
			hold(t, "ticks of another kind", one(api.Item{ID: "a", Kind: kind, Parent: "plan", Ticks: n}), n == 0)
		}
		m := one()
		m.Items[0].Ticks = n
		hold(t, "ticks of the plan", m, n == 0)
	}
	for _, n := range []int{math.MinInt, -1 << 32, -api.MaxN - 1, -api.MaxN, 1 - api.MaxN, -1, 0, 1, api.MaxN - 1, api.MaxN, api.MaxN + 1, 1 << 32, math.MaxInt} {
		want := -api.MaxN <= n && n <= api.MaxN
		c := api.Cond{File: "f", Op: "<", N: n}
		hold(t, "N "+strconv.Itoa(n), one(api.Item{ID: "a", Kind: api.Task, Parent: "plan", Entry: []api.Sentry{when(c)}}), want)
		hold(t, "second N "+strconv.Itoa(n), one(api.Item{ID: "a", Kind: api.Task, Parent: "plan", Exit: []api.Sentry{when(api.Cond{File: "f", Op: "="}, c)}}), want)
	}
	for kind := -3; kind <= 300; kind++ {
		x := api.Item{ID: "a", Kind: kind, Parent: "plan"}
		if kind == api.Timer {
			x.Ticks = 1
		}
		hold(t, "kind "+strconv.Itoa(kind), one(x), 1 <= kind && kind <= 5)
	}
}

// P4.1: names, of Files and of items alike.
func TestIsNames(t *testing.T) {
	long := strings.Repeat("x", api.MaxName)
	for _, s := range []string{"a", "Z", "_", "a-", "a.1", long, "", "1", "-", ".a", "a:b", ":", "a b", " a", "a\n", "a\x00", "\xff", "\u00e9", long + "x", strings.Repeat("a", 1<<20)} {
		m := one(api.Item{ID: s, Kind: api.Stage, Parent: "plan"})
		hold(t, "ID "+strconv.Quote(s[:min(len(s), 20)]), m, aName.MatchString(s))
		m = one()
		m.Items[0].ID = s
		hold(t, "ID of the plan", m, aName.MatchString(s))
		m = one()
		m.Files = []string{"f", s, "g"}
		hold(t, "file "+strconv.Quote(s[:min(len(s), 20)]), m, aName.MatchString(s))
	}
	// Any two of the same name.
	for i := range 6 {
		for j := range i {
			m := one(numbered(5, api.Task, "plan")...)
			m.Items[i].ID = m.Items[j].ID
			hold(t, "an ID twice", m, false)
			m = one()
			m.Files = []string{"a", "b", "c", "d", "e", "f"}
			hold(t, "files", m, true)
			m.Files[i] = m.Files[j]
			hold(t, "a file twice", m, false)
		}
	}
	m := one(api.Item{ID: "Plan", Kind: api.Task, Parent: "plan"})
	m.Files = []string{"f", "F"}
	hold(t, "small and capital", m, true)
}

// change is one change of the sample, and whether it may be behind it.
type change struct {
	what string
	do   func(m *api.Model)
	may  bool
}

func holdChanges(t *testing.T, changes []change) {
	t.Helper()
	for _, c := range changes {
		m := sample()
		c.do(&m)
		hold(t, c.what, m, c.may)
	}
}

// P4.1: the first item.
func TestIsPlan(t *testing.T) {
	some := []api.Sentry{on(api.On{Item: "task", Event: api.Exit})}
	changes := []change{
		{"a plan with a Parent", func(m *api.Model) { m.Items[0].Parent = "outer" }, false},
		{"a plan in itself", func(m *api.Model) { m.Items[0].Parent = "plan" }, false},
		{"a plan in none", func(m *api.Model) { m.Items[0].Parent = "zz" }, false},
		{"a Required plan", func(m *api.Model) { m.Items[0].Required = true }, false},
		{"a plan with Entry", func(m *api.Model) { m.Items[0].Entry = some }, false},
		{"a plan with Exit", func(m *api.Model) { m.Items[0].Exit = some }, false},
		{"two plans", func(m *api.Model) { item(m, "time").Parent = "" }, false},
		{"two plans at the front", func(m *api.Model) { item(m, "outer").Parent = "" }, false},
		{"the plan behind its own", func(m *api.Model) { m.Items[0], m.Items[1] = m.Items[1], m.Items[0] }, false},
	}
	holdChanges(t, changes)
	for kind := -1; kind <= 7; kind++ {
		x := api.Item{ID: "a", Kind: kind}
		if kind == api.Timer {
			x.Ticks = 1
		}
		hold(t, "a plan of kind "+strconv.Itoa(kind), api.Model{Items: []api.Item{x}}, kind == api.Stage)
	}
}

// P4.1: Parents.
func TestIsParents(t *testing.T) {
	parent := func(id, parent string) func(m *api.Model) {
		return func(m *api.Model) { item(m, id).Parent = parent }
	}
	holdChanges(t, []change{
		{"the one ahead", parent("inner", "outer"), true},
		{"beside the one ahead", parent("inner", "plan"), false}, // mile stands in outer, that has ended
		{"one further without", parent("task", "outer"), true},
		{"the outermost", parent("mile", "plan"), true},
		{"that the one ahead stands in", parent("mile", "inner"), true},
		{"that has ended", parent("hear", "inner"), false},
		{"that ended just now", parent("time", "outer"), false},
		{"nobody", parent("task", "zz"), false},
		{"nothing", parent("task", ""), false},
		{"itself", parent("inner", "inner"), false},
		{"itself, no Stage", parent("task", "task"), false},
		{"further behind", parent("outer", "inner"), false},
		{"further behind, no Stage", parent("inner", "time"), false},
		{"a Task", parent("mile", "task"), false},
		{"a Milestone", parent("hear", "mile"), false},
		{"a Listener", parent("time", "hear"), false},
		{"a Task further ahead", parent("time", "task"), false},
		{"a Parent that is a Stage no more", func(m *api.Model) { item(m, "inner").Kind = api.Task }, false},
		{"a File", parent("task", "f"), false},
		{"another case", parent("task", "Inner"), false},
	})
	timer := one(api.Item{ID: "a", Kind: api.Timer, Parent: "plan", Ticks: 1}, api.Item{ID: "b", Kind: api.Task, Parent: "a"})
	hold(t, "a Timer", timer, false)
	gap := one(api.Item{ID: "a", Kind: api.Stage, Parent: "plan"}, api.Item{ID: "b", Kind: api.Task, Parent: "a"}, api.Item{ID: "c", Kind: api.Task, Parent: "plan"}, api.Item{ID: "d", Kind: api.Task, Parent: "a"})
	hold(t, "a gap", gap, false)
	gap.Items[2].Parent = "plan"
	hold(t, "a Stage that ends before it begins", gap, false)
}

// P4.1: all Parents of four items behind the plan, each a Stage or none.
func TestIsOfAllParents(t *testing.T) {
	ids := []string{"a", "b", "c", "d", "e"}
	parents := append([]string{"", "zz"}, ids...)
	good := 0
	for kinds := range 1 << 5 {
		for way := range 7 * 7 * 7 * 7 {
			m := api.Model{Items: make([]api.Item, 5)}
			rest := way
			for i, id := range ids {
				m.Items[i] = api.Item{ID: id, Kind: api.Stage + kinds>>i&1}
				if i > 0 {
					m.Items[i].Parent = parents[rest%7]
					rest /= 7
				}
			}
			want := mayBe(m)
			if want {
				good++
			}
			if model.Is(m) != want {
				t.Fatalf("%v: not %v", m, want)
			}
		}
	}
	// Of the 14 trees 1, 6, 6, 1 have 1, 2, 3, 4 leaves, and each leaf may be either kind.
	if want := 1*2 + 6*4 + 6*8 + 1*16; good != want {
		t.Errorf("%d, not %d", good, want)
	}
}

// P4.1: Listener and Timer are not Required, and have no Entry; the others may.
func TestIsOfThoseThatWait(t *testing.T) {
	some := []api.Sentry{on(api.On{Item: "plan", Event: api.Create})}
	for kind := api.Stage; kind <= api.Timer; kind++ {
		x := api.Item{ID: "a", Kind: kind, Parent: "plan"}
		if kind == api.Timer {
			x.Ticks = 1
		}
		may := kind != api.Listener && kind != api.Timer
		hold(t, "plain", one(x), true)
		required, entry, exit := x, x, x
		required.Required, entry.Entry, exit.Exit = true, some, some
		hold(t, "Required", one(required), may)
		hold(t, "Entry", one(entry), may)
		hold(t, "Exit", one(exit), true)
	}
}

// P4.1: sentries, each of them as an Entry, as an Exit, alone and behind others.
func TestIsSentries(t *testing.T) {
	good := on(api.On{Item: "plan", Event: api.Create})
	cond := func(file, op string) api.Sentry { return when(api.Cond{File: file, Op: op}) }
	for _, x := range []struct {
		what string
		s    api.Sentry
		may  bool
	}{
		{"nothing", api.Sentry{}, false},
		{"empty rows", api.Sentry{On: []api.On{}, If: []api.Cond{}}, false},
		{"On alone", on(api.On{Item: "plan", Event: api.Exit}), true},
		{"If alone", cond("f", "<"), true},
		{"both", api.Sentry{On: good.On, If: []api.Cond{{File: "g", Op: ">"}}}, true},
		{"its own item", on(api.On{Item: "task", Event: api.Complete}), true},
		{"an ID that there is not", on(api.On{Item: "zz", Event: api.Create}), false},
		{"nothing as an ID", on(api.On{Event: api.Create}), false},
		{"a File as an ID", on(api.On{Item: "f", Event: api.Create}), false},
		{"an ID that there is not, behind one", on(good.On[0], api.On{Item: "Plan", Event: api.Create}), false},
		{"no event", on(api.On{Item: "plan"}), false},
		{"an event twice", on(good.On[0], good.On[0]), false},
		{"an event twice, with one between", on(good.On[0], api.On{Item: "task", Event: api.Create}, good.On[0]), false},
		{"two events of one item", on(api.On{Item: "plan", Event: api.Create}, api.On{Item: "plan", Event: api.Start}), true},
		{"one event of two items", on(api.On{Item: "plan", Event: api.Create}, api.On{Item: "time", Event: api.Create}), true},
		{"a condition twice", when(api.Cond{File: "f", Op: "="}, api.Cond{File: "f", Op: "="}), true},
		{"no such File", cond("h", "="), false},
		{"an item as a File", cond("task", "="), false},
		{"nothing as a File", cond("", "="), false},
		{"no such File, behind one", when(api.Cond{File: "f", Op: "="}, api.Cond{File: "F", Op: "="}), false},
		{"no such Op, behind one", when(api.Cond{File: "f", Op: "="}, api.Cond{File: "g", Op: "=="}), false},
		{"a wrong On beside a good If", api.Sentry{On: []api.On{{Item: "zz", Event: api.Exit}}, If: cond("f", "=").If}, false},
		{"a wrong If beside a good On", api.Sentry{On: good.On, If: cond("h", "=").If}, false},
	} {
		for _, row := range [][]api.Sentry{{x.s}, {good, x.s}, {x.s, good}, {good, good, x.s}} {
			m := sample()
			item(&m, "task").Entry = row
			hold(t, "Entry: "+x.what, m, x.may)
			for _, id := range []string{"outer", "task", "mile", "hear", "time"} {
				m = sample()
				item(&m, id).Exit = row
				hold(t, "Exit: "+x.what, m, x.may)
			}
		}
	}
	for _, op := range []string{"<", "<=", "=", "!=", ">=", ">"} {
		hold(t, op, one(api.Item{ID: "a", Kind: api.Task, Parent: "plan", Entry: []api.Sentry{cond("f", op)}}), true)
	}
	for _, op := range []string{"", " ", "==", "=<", "=>", "<>", "!", "< ", " <", "<=>", "lt", "le", "eq", "\u2264", "<\x00", "<<"} {
		hold(t, op, one(api.Item{ID: "a", Kind: api.Task, Parent: "plan", Entry: []api.Sentry{cond("f", op)}}), false)
	}
}

// P4.1: an On of each kind and each event; the item it names stands ahead or behind.
func TestIsEventsOfKinds(t *testing.T) {
	for kind := api.Stage; kind <= api.Timer; kind++ {
		for event := -2; event <= 8; event++ {
			x := api.Item{ID: "x", Kind: kind, Parent: "plan"}
			if kind == api.Timer {
				x.Ticks = 1
			}
			y := api.Item{ID: "y", Kind: api.Task, Parent: "plan", Entry: []api.Sentry{on(api.On{Item: "x", Event: event})}}
			want := slices.Contains(legalOf[kind], event)
			hold(t, "ahead", one(x, y), want)
			hold(t, "behind", one(y, x), want)
			x.Exit = []api.Sentry{on(api.On{Item: "x", Event: event})}
			hold(t, "itself", one(x), want)
		}
	}
}

// P4.1: any one thing that may not be counts, wherever it stands.
func TestIsLooksAtAll(t *testing.T) {
	for at := 1; at < api.MaxItems; at++ {
		for _, x := range []struct {
			what string
			do   func(x *api.Item)
		}{
			{"ID", func(x *api.Item) { x.ID = "1" }},
			{"Kind", func(x *api.Item) { x.Kind = 0 }},
			{"Parent", func(x *api.Item) { x.Parent = "zz" }},
			{"Ticks", func(x *api.Item) { x.Ticks = 1 }},
			{"Entry", func(x *api.Item) { x.Entry = []api.Sentry{{}} }},
			{"Exit", func(x *api.Item) { x.Exit = []api.Sentry{{}} }},
		} {
			m := one(numbered(api.MaxItems-1, api.Task, "plan")...)
			hold(t, "whole", m, true)
			x.do(&m.Items[at])
			hold(t, x.what, m, false)
		}
	}
}

// P4.1: models at random, held against the oracle: as they grow, and spoiled.
func TestIsOfGrownModels(t *testing.T) {
	r := rand.New(rand.NewSource(4))
	counts := [2]int{}
	for range 20000 {
		m := grown(r)
		hold(t, "grown", m, true)
		for range 1 + r.Intn(3) {
			spoil(r, &m)
			want := mayBe(m)
			if model.Is(m) != want {
				t.Fatalf("%v: not %v", m, want)
			}
			if want {
				counts[1]++
			} else {
				counts[0]++
			}
		}
	}
	if counts[0] < 1000 || counts[1] < 1000 {
		t.Error(counts)
	}
}

// W1: rows of any length are answered at once.
func TestIsOfLongRows(t *testing.T) {
	const n = 1 << 20
	files, items := make([]string, n), make([]api.Item, n)
	for i := range n {
		files[i] = "f" + strconv.Itoa(i)
		items[i] = api.Item{ID: files[i], Kind: api.Stage, Parent: "f" + strconv.Itoa(i-1)}
	}
	items[0].Parent = ""
	sentry := api.Sentry{On: make([]api.On, n), If: make([]api.Cond, n)}
	for i, m := range []api.Model{
		{Files: files, Items: items}, {Files: files, Items: items[:1]}, {Items: items},
		one(api.Item{ID: "a", Kind: api.Task, Parent: "plan", Entry: make([]api.Sentry, n)}),
		one(api.Item{ID: "a", Kind: api.Task, Parent: "plan", Exit: []api.Sentry{sentry}}),
	} {
		if model.Is(m) {
			t.Error(i)
		}
	}
}

// FuzzIs spoils a grown model in ways that the numbers say.
func FuzzIs(f *testing.F) {
	f.Add(int64(1), uint8(0))
	f.Add(int64(2), uint8(3))
	f.Fuzz(func(t *testing.T, seed int64, n uint8) {
		r := rand.New(rand.NewSource(seed))
		m := grown(r)
		for range n % 8 {
			spoil(r, &m)
		}
		if want := mayBe(m); model.Is(m) != want {
			t.Fatalf("%v: not %v", m, want)
		}
	})
}
