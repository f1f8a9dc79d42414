package norm_test

import (
	"math/rand"
	"reflect"
	"slices"
	"strconv"
	"strings"
	"testing"

	"sentry/api"
	"sentry/model"
	"sentry/norm"
)

// holdNormal holds Normal of a model that may be against what it must answer,
// and Is of both; and that it may be and is its own Normal.
func holdNormal(t *testing.T, what string, m, want api.Model) {
	t.Helper()
	if !model.Is(m) {
		t.Fatalf("%s: %v may not be", what, m)
	}
	got := norm.Normal(m)
	if !model.Same(got, want) {
		t.Fatalf("%s:\n%v\nnot\n%v\nof\n%v", what, got, want, m)
	}
	if !model.Is(got) || !norm.Is(got) || !model.Same(norm.Normal(got), got) {
		t.Fatalf("%s: %v is not in order", what, got)
	}
	if norm.Is(m) != model.Same(m, want) {
		t.Fatalf("%s: Is of %v is %v", what, m, norm.Is(m))
	}
}

// permutations calls of each order of a row.
func permutations[T any](row []T, do func([]T)) {
	if len(row) == 0 {
		do(nil)
		return
	}
	for i, first := range row {
		permutations(slices.Delete(slices.Clone(row), i, i+1), func(rest []T) {
			do(append([]T{first}, rest...))
		})
	}
}

// asks is a model whose task x has these sentries, of the Files f and g.
func asks(entry, exit []api.Sentry) api.Model {
	return api.Model{Files: []string{"f", "g"}, Items: []api.Item{{ID: "p", Kind: api.Stage}, {ID: "x", Kind: api.Task, Parent: "p", Entry: entry, Exit: exit}, {ID: "y", Kind: api.Task, Parent: "p"}}}
}

// sorted is a model that has all there is, in order.
func sorted() api.Model {
	return api.Model{
		Files: []string{"F", "_", "f", "f-", "f.", "f1"},
		Items: []api.Item{
			{ID: "m", Kind: api.Stage},
			{ID: "b", Kind: api.Stage, Parent: "m", Required: true,
				Exit: []api.Sentry{when(api.Cond{File: "F", Op: "=", N: 1}, api.Cond{File: "f", Op: "!=", N: -1}), on(api.On{Item: "a", Event: api.Create}, api.On{Item: "b", Event: api.Create}, api.On{Item: "b", Event: api.Exit})}},
			{ID: "a", Kind: api.Task, Parent: "b", Entry: []api.Sentry{on(api.On{Item: "b", Event: api.Start})}},
			{ID: "z", Kind: api.Stage, Parent: "b", Entry: []api.Sentry{when(api.Cond{File: "f", Op: "<", N: -2}), when(api.Cond{File: "f", Op: "<", N: 1}), both(api.On{Item: "a", Event: api.Start}, api.Cond{File: "_", Op: ">=", N: 3})}},
			{ID: "B", Kind: api.Listener, Parent: "z", Exit: []api.Sentry{on(api.On{Item: "m", Event: api.Complete})}},
			{ID: "_", Kind: api.Timer, Parent: "z", Ticks: 3},
			{ID: "c", Kind: api.Stage, Parent: "m"},
			{ID: "C", Kind: api.Task, Parent: "c", Required: true},
			{ID: "d", Kind: api.Stage, Parent: "m"},
			{ID: "D", Kind: api.Milestone, Parent: "d", Entry: []api.Sentry{on(api.On{Item: "B", Event: api.Occur}, api.On{Item: "_", Event: api.Occur})}},
		},
	}
}

// P7.1: a model in order is its Normal, with all its fields.
func TestNormalOfOrder(t *testing.T) {
	for _, m := range []api.Model{sorted(), fullest(), {Items: []api.Item{{ID: "a", Kind: api.Stage}}}, {Files: []string{}, Items: []api.Item{{ID: "a", Kind: api.Stage, Entry: []api.Sentry{}, Exit: []api.Sentry{}}}}, {Files: []string{"a"}, Items: []api.Item{{ID: "a", Kind: api.Stage}}}} {
		holdNormal(t, "in order", m, m)
		if !norm.Is(m) {
			t.Errorf("%v is in no order", m)
		}
	}
}

// P7.1: Files in each order there is.
func TestNormalOfFiles(t *testing.T) {
	m := sorted()
	m.Items = m.Items[:1]
	for n := range m.Files {
		want := model.Copy(m)
		want.Files = want.Files[:n+1]
		count := 0
		permutations(want.Files, func(files []string) {
			holdNormal(t, "Files", api.Model{Files: files, Items: want.Items}, want)
			count++
		})
		if n == 5 && count != 720 {
			t.Error(count)
		}
	}
	// The document's example, and one whose order by letters is another one.
	for _, files := range [][2]string{{"b a", "a b"}, {"a B c D", "B D a c"}, {"x9 x10 x1 x2", "x1 x10 x2 x9"}, {"ab a abc", "a ab abc"}} {
		holdNormal(t, files[0], api.Model{Files: strings.Fields(files[0]), Items: m.Items}, api.Model{Files: strings.Fields(files[1]), Items: m.Items})
	}
}

// P7.1: the items of one stage in each order there is; by bytes, not by
// letters nor numbers.
func TestNormalOfKids(t *testing.T) {
	for _, ids := range []string{"A Z _ a z", "n1 n10 n11 n2 n9", "a a- a. a0 aa", "A AA Aa aA aa"} {
		want := api.Model{Items: []api.Item{{ID: "p", Kind: api.Stage}}}
		for i, id := range strings.Fields(ids) {
			item := api.Item{ID: id, Kind: 1 + i%5, Parent: "p"}
			if item.Kind == api.Timer {
				item.Ticks = 9
			}
			want.Items = append(want.Items, item)
		}
		permutations(want.Items[1:], func(kids []api.Item) {
			holdNormal(t, ids, api.Model{Items: append(want.Items[:1:1], kids...)}, want)
		})
	}
	// The plan is the first one, whatever its ID.
	for _, id := range []string{"A", "m", "zz"} {
		m := api.Model{Items: []api.Item{{ID: id, Kind: api.Stage}, {ID: "n", Kind: api.Task, Parent: id}, {ID: "b", Kind: api.Task, Parent: id}}}
		want := api.Model{Items: []api.Item{m.Items[0], m.Items[2], m.Items[1]}}
		holdNormal(t, id, m, want)
	}
}

// P7.1: stages within stages, each with all that stands in it behind it, even
// where an ID within is ahead of it, or behind its neighbour.
func TestNormalOfStages(t *testing.T) {
	tree := func(rows ...string) api.Model {
		var m api.Model
		for _, s := range rows {
			id, parent, _ := strings.Cut(s, " in ")
			m.Items = append(m.Items, api.Item{ID: id, Kind: api.Stage, Parent: parent})
		}
		return m
	}
	want := tree("m", "b in m", "a in b", "z in b", "A in z", "y in z", "c in m", "B in c", "zz in c", "d in m")
	for _, m := range []api.Model{
		want,
		tree("m", "d in m", "c in m", "zz in c", "B in c", "b in m", "z in b", "y in z", "A in z", "a in b"),
		tree("m", "c in m", "B in c", "zz in c", "d in m", "b in m", "a in b", "z in b", "A in z", "y in z"),
		tree("m", "b in m", "z in b", "A in z", "y in z", "a in b", "c in m", "B in c", "zz in c", "d in m"),
		tree("m", "b in m", "a in b", "z in b", "y in z", "A in z", "d in m", "c in m", "zz in c", "B in c"),
	} {
		holdNormal(t, "stages", m, want)
	}
	// A way is no text: what stands in a is ahead of a-, a., a0 though these begin with a.
	want = tree("p", "a in p", "z in a", "a- in p", "y in a-", "a. in p", "a0 in p", "x in a0")
	holdNormal(t, "IDs that begin others", tree("p", "a0 in p", "x in a0", "a. in p", "a- in p", "y in a-", "a in p", "z in a"), want)
	// As deep as may be.
	want = tree("f", "e in f", "d in e", "c in d", "b in c", "a in b", "aa in b", "c1 in d")
	holdNormal(t, "deep", tree("f", "e in f", "d in e", "c1 in d", "c in d", "b in c", "aa in b", "a in b"), want)
	holdNormal(t, "deep", tree("f", "e in f", "d in e", "c in d", "b in c", "aa in b", "a in b", "c1 in d"), want)
}

// P7.1: On in each order there is, of Entry and of Exit.
func TestNormalOfOn(t *testing.T) {
	for _, row := range [][]api.On{
		{{Item: "p", Event: api.Exit}, {Item: "x", Event: api.Create}, {Item: "y", Event: api.Create}},
		{{Item: "x", Event: api.Create}, {Item: "x", Event: api.Start}, {Item: "x", Event: api.Exit}},
		{{Item: "p", Event: api.Start}, {Item: "p", Event: api.Complete}, {Item: "x", Event: api.Create}},
		{{Item: "p", Event: api.Exit}, {Item: "y", Event: api.Create}},
		{{Item: "y", Event: api.Create}},
	} {
		for _, conds := range [][]api.Cond{nil, {{File: "f", Op: "=", N: 1}}} {
			want := []api.Sentry{{On: row, If: conds}}
			permutations(row, func(mixed []api.On) {
				m := []api.Sentry{{On: mixed, If: conds}}
				holdNormal(t, "On of Entry", asks(m, nil), asks(want, nil))
				holdNormal(t, "On of Exit", asks(nil, m), asks(nil, want))
			})
		}
	}
}

// P7.1: If in both orders, and such that stand there twice.
func TestNormalOfIf(t *testing.T) {
	rows := [][]api.Cond{
		{{File: "f", Op: ">", N: 9}, {File: "g", Op: "!=", N: -9}},
		{{File: "f", Op: "<", N: 9}, {File: "f", Op: "<=", N: -9}},
		{{File: "f", Op: "!=", N: 9}, {File: "f", Op: "<", N: -9}},
		{{File: "f", Op: "<", N: -10}, {File: "f", Op: "<", N: -9}},
		{{File: "f", Op: "<", N: -1}, {File: "f", Op: "<", N: 0}},
		{{File: "f", Op: "<", N: 9}, {File: "f", Op: "<", N: 10}},
		{{File: "f", Op: "<", N: -api.MaxN}, {File: "f", Op: "<", N: api.MaxN}},
	}
	for _, ons := range [][]api.On{nil, {{Item: "x", Event: api.Create}}} {
		for _, row := range rows {
			want := []api.Sentry{{On: ons, If: row}}
			m := []api.Sentry{{On: ons, If: []api.Cond{row[1], row[0]}}}
			holdNormal(t, "If of Entry", asks(m, nil), asks(want, nil))
			holdNormal(t, "If of Exit", asks(nil, m), asks(nil, want))
			for _, c := range row {
				want := []api.Sentry{{On: ons, If: []api.Cond{c}}}
				m := []api.Sentry{{On: ons, If: []api.Cond{c, c}}}
				holdNormal(t, "If twice of Entry", asks(m, nil), asks(want, nil))
				holdNormal(t, "If twice of Exit", asks(nil, m), asks(nil, want))
			}
		}
	}
}

// P7.1: sentries in each order there is, of Entry and of Exit.
func TestNormalOfSentries(t *testing.T) {
	x, y, p := api.On{Item: "x", Event: api.Start}, api.On{Item: "y", Event: api.Create}, api.On{Item: "p", Event: api.Exit}
	f, g := api.Cond{File: "f", Op: ">", N: 2}, api.Cond{File: "g", Op: "<", N: -2}
	for _, row := range [][]api.Sentry{
		{on(p), on(x), on(y)},
		{on(p), on(p, x), on(p, x, y)},
		{on(x), both(x, f), both(x, f, g)},
		{when(f), when(f, g), when(g)},
		{when(g), both(p, f), both(p, g)},
		{when(f), on(p), both(p, f)},
		{when(api.Cond{File: "f", Op: "<", N: -1}), when(api.Cond{File: "f", Op: "<", N: 0}), when(api.Cond{File: "f", Op: "<", N: 10})},
		{when(api.Cond{File: "f", Op: "!=", N: 1}), when(api.Cond{File: "f", Op: "<=", N: 1}), when(api.Cond{File: "f", Op: "=", N: 1})},
		{on(api.On{Item: "x", Event: api.Create}), on(api.On{Item: "x", Event: api.Complete}), on(api.On{Item: "x", Event: api.Exit})},
	} {
		permutations(row, func(mixed []api.Sentry) {
			holdNormal(t, "Entry", asks(mixed, nil), asks(row, nil))
			holdNormal(t, "Exit", asks(nil, mixed), asks(nil, row))
			holdNormal(t, "both", asks(mixed, mixed), asks(row, row))
		})
		permutations(row[:2], func(mixed []api.Sentry) {
			holdNormal(t, "two", asks(mixed, row[2:]), asks(row[:2], row[2:]))
		})
	}
}

// P7.1: sentries that stand there twice, thrice, as they are or once they are in order.
func TestNormalOfSentriesTwice(t *testing.T) {
	x, y := api.On{Item: "x", Event: api.Start}, api.On{Item: "y", Event: api.Create}
	f, g := api.Cond{File: "f", Op: ">", N: 2}, api.Cond{File: "g", Op: "<", N: -2}
	same := [][]api.Sentry{
		{on(x), on(x)},
		{on(x, y), on(y, x)},
		{when(f), when(f, f)},
		{when(f, g), when(g, f)},
		{both(x, f, g), both(x, g, f)},
		{{On: []api.On{x, y}, If: []api.Cond{f}}, {On: []api.On{y, x}, If: []api.Cond{f, f}}},
		{{On: []api.On{x, y}, If: []api.Cond{f, g}}, {On: []api.On{x, y}, If: []api.Cond{g, f}}},
	}
	other := []api.Sentry{when(api.Cond{File: "f", Op: "<", N: 2}), on(y)}
	for _, s := range same {
		one, two := s[:1], s[1]
		for _, m := range [][]api.Sentry{one, {two}, {one[0], two}, {two, one[0]}, {two, two}, {one[0], one[0], two}, {one[0], two, one[0]}, {two, one[0], one[0]}, {two, two, one[0]}, {two, two, two}} {
			holdNormal(t, "Entry", asks(m, nil), asks(one, nil))
			holdNormal(t, "Exit", asks(nil, m), asks(nil, one))
			// What is one in Entry and in Exit stands in both.
			holdNormal(t, "both", asks(m, []api.Sentry{two}), asks(one, one))
		}
		for i, o := range other {
			want := []api.Sentry{o, one[0]}
			if i == 1 {
				slices.Reverse(want)
			}
			permutations([]api.Sentry{o, one[0], two}, func(mixed []api.Sentry) {
				holdNormal(t, "another one among them", asks(mixed, nil), asks(want, nil))
				holdNormal(t, "another one among them", asks(nil, mixed), asks(nil, want))
			})
		}
	}
	// Such as look like each other are not one.
	for _, row := range [][]api.Sentry{{when(f), both(x, f)}, {on(x), both(x, f)}, {both(x, f), both(x, f, g)}, {on(x), on(x, y)}, {when(f), when(api.Cond{File: "f", Op: ">", N: 3})}} {
		holdNormal(t, "unlike", asks(row, nil), asks(row, nil))
		holdNormal(t, "unlike", asks([]api.Sentry{row[1], row[0]}, nil), asks(row, nil))
	}
}

// fullest is a model in order of which there is no more, in Files, in items,
// in sentries, in what stands in them, in depth.
func fullest() api.Model {
	m := api.Model{Items: []api.Item{{ID: "plan", Kind: api.Stage}}}
	for i := range api.MaxFiles {
		m.Files = append(m.Files, strings.Repeat(string(rune('u'+i)), api.MaxName))
	}
	last := m.Items[0].ID
	for i := range api.MaxItems - 1 {
		item := api.Item{ID: strings.Repeat(string(rune('a'+i)), api.MaxName), Kind: api.Stage, Parent: last, Required: true}
		if i < api.MaxStages-1 {
			last = item.ID
		}
		m.Items = append(m.Items, item)
	}
	for i := 1; i < api.MaxItems; i++ {
		ons := []api.On{{Item: m.Items[1].ID, Event: api.Exit}, {Item: m.Items[2].ID, Event: api.Create}, {Item: m.Items[2].ID, Event: api.Complete}}
		conds := []api.Cond{{File: m.Files[1], Op: "=", N: -i}, {File: m.Files[5], Op: "<", N: i}}
		row := []api.Sentry{{On: ons, If: conds}}
		row = append(row, api.Sentry{On: ons, If: []api.Cond{conds[0], {File: m.Files[5], Op: ">", N: 0}}})
		row = append(row, api.Sentry{On: append(ons[:2:2], api.On{Item: m.Items[i].ID, Event: api.Exit}), If: conds})
		m.Items[i].Entry, m.Items[i].Exit = row, slices.Clone(row)
		if i <= 2 {
			m.Items[i].Entry, m.Items[i].Exit = row[:2], row[:2]
		}
	}
	return m
}

// backwards is a model with all rows the other way round.
func backwards(m api.Model) api.Model {
	out := model.Copy(m)
	slices.Reverse(out.Files)
	out.Items = walked(out, func(kids []int) []int {
		slices.Reverse(kids)
		return kids
	})
	for _, item := range out.Items {
		for _, row := range [][]api.Sentry{item.Entry, item.Exit} {
			slices.Reverse(row)
			for _, s := range row {
				slices.Reverse(s.On)
				slices.Reverse(s.If)
			}
		}
	}
	return out
}

// P7.1: as much as there may be of all of it.
func TestNormalOfTheFullest(t *testing.T) {
	m := fullest()
	if len(m.Files) != api.MaxFiles || len(m.Items) != api.MaxItems || len(m.Items[9].Entry) != api.MaxSentries || len(m.Items[9].Exit[2].On) != api.MaxOn || len(m.Items[9].Exit[2].If) != api.MaxIf {
		t.Error(m)
	}
	holdNormal(t, "fullest", backwards(m), m)
	holdNormal(t, "sorted", backwards(sorted()), sorted())
	r := rand.New(rand.NewSource(72))
	for range 500 {
		holdNormal(t, "fullest, mixed", mixedModel(r, m), m)
	}
}

// P7.1: models of any shape, against the oracle; and each that is the same but
// for the order has the same Normal.
func TestNormalOfAny(t *testing.T) {
	r := rand.New(rand.NewSource(73))
	inOrder, shorter := 0, 0
	for range 4000 {
		m := grown(r)
		want := ordered(m)
		holdNormal(t, "grown", m, want)
		holdNormal(t, "mixed", mixedModel(r, m), want)
		holdNormal(t, "mixed order", mixedModel(r, want), want)
		if norm.Is(m) {
			inOrder++
		}
		if countOf(want) < countOf(m) {
			shorter++
		}
	}
	if inOrder < 100 || shorter < 1000 {
		t.Error(inOrder, shorter)
	}
	for _, m := range []api.Model{sorted(), fullest()} {
		for range 500 {
			holdNormal(t, "mixed", mixedModel(r, m), m)
		}
	}
}

// countOf is how many sentries and If there are.
func countOf(m api.Model) int {
	n := 0
	for _, item := range m.Items {
		for _, s := range slices.Concat(item.Entry, item.Exit) {
			n += 1 + len(s.If)
		}
	}
	return n
}

// P7.2: Normal loses nothing but what stands there twice: all fields of each
// item, all Files are there.
func TestNormalKeepsAll(t *testing.T) {
	r := rand.New(rand.NewSource(74))
	for range 3000 {
		m := grown(r)
		got := norm.Normal(m)
		if len(got.Files) != len(m.Files) || len(got.Items) != len(m.Items) {
			t.Fatalf("%v of %v", got, m)
		}
		for _, file := range m.Files {
			if !slices.Contains(got.Files, file) {
				t.Fatalf("%v lacks %s", got, file)
			}
		}
		for _, a := range m.Items {
			b := got.Items[model.Place(got, a.ID)]
			if a.Kind != b.Kind || a.Parent != b.Parent || a.Required != b.Required || a.Ticks != b.Ticks || !covers(a.Entry, b.Entry) || !covers(b.Entry, a.Entry) || !covers(a.Exit, b.Exit) || !covers(b.Exit, a.Exit) {
				t.Fatalf("%v of %v", b, a)
			}
		}
	}
}

// covers tells whether each sentry of a row has in another one its like: of the same On and If, in whatever order.
func covers(row, in []api.Sentry) bool {
	for _, a := range row {
		if !slices.ContainsFunc(in, func(b api.Sentry) bool {
			return within(a.On, b.On) && within(b.On, a.On) && within(a.If, b.If) && within(b.If, a.If)
		}) {
			return false
		}
	}
	return true
}

func within[T comparable](row, in []T) bool {
	for _, x := range row {
		if !slices.Contains(in, x) {
			return false
		}
	}
	return true
}

// W1, P7.2: of what may not be, of which nothing is said, it ends all the
// same; it is not changed, and no answer shares its memory.
func TestNormalOfOthersEnds(t *testing.T) {
	r := rand.New(rand.NewSource(75))
	models := others()
	for range 1000 {
		m := grown(r)
		spoil(r, &m)
		models = append(models, m)
	}
	for _, m := range models {
		want := model.Copy(m)
		got := norm.Normal(m)
		if !model.Same(m, want) {
			t.Fatalf("%v, not %v", m, want)
		}
		apart(t, rooms("normal", reflect.ValueOf(got)), rooms("given", reflect.ValueOf(m)))
	}
	long := api.Model{Files: make([]string, 1<<20), Items: make([]api.Item, 1<<20)}
	for i := range long.Items {
		long.Items[i] = api.Item{ID: strconv.Itoa(i), Parent: strconv.Itoa(i + 1)}
	}
	norm.Normal(long)
	norm.Is(long)
}

// W2: the same again and again.
func TestNormalAgain(t *testing.T) {
	r := rand.New(rand.NewSource(76))
	for range 100 {
		m := grown(r)
		want := norm.Normal(m)
		for range 20 {
			if !model.Same(norm.Normal(m), want) {
				t.Fatalf("%v: not the same twice", m)
			}
		}
	}
}

// P7.1, P7.2: any models, as far as a fuzzer looks.
func FuzzNormal(f *testing.F) {
	f.Add(int64(1), int64(2))
	f.Add(int64(3), int64(3))
	f.Fuzz(func(t *testing.T, shape, mix int64) {
		m := grown(rand.New(rand.NewSource(shape)))
		want := ordered(m)
		holdNormal(t, "grown", m, want)
		holdNormal(t, "mixed", mixedModel(rand.New(rand.NewSource(mix)), m), want)
	})
}
