package norm_test

import (
	"reflect"
	"slices"
	"strconv"
	"testing"
	"unsafe"

	"sentry/api"
	"sentry/model"
	"sentry/norm"
)

// room is the memory that a list or a text has, its spare room too.
type room struct {
	path       string
	begin, end uintptr
}

// rooms are those of all lists and texts of a thing.
func rooms(path string, v reflect.Value) []room {
	var out []room
	switch v.Kind() {
	case reflect.Struct:
		for i := range v.NumField() {
			out = append(out, rooms(path+"."+v.Type().Field(i).Name, v.Field(i))...)
		}
	case reflect.Slice:
		begin := v.Pointer()
		out = append(out, room{path, begin, begin + uintptr(v.Cap())*v.Type().Elem().Size()})
		for i := range v.Len() {
			out = append(out, rooms(path+"["+strconv.Itoa(i)+"]", v.Index(i))...)
		}
	case reflect.String:
		begin := uintptr(unsafe.Pointer(unsafe.StringData(v.String())))
		out = append(out, room{path, begin, begin + uintptr(v.Len())})
	}
	return out
}

// apart tells where an answer shares memory with others, or within itself.
func apart(t *testing.T, got []room, others ...[]room) {
	t.Helper()
	for i, a := range got {
		for _, b := range slices.Concat(append(others, got[:i])...) {
			if a.begin < b.end && b.begin < a.end {
				t.Errorf("%s shares memory with %s", a.path, b.path)
			}
		}
	}
}

// roomy is a list with room behind its end, in which something stands.
func roomy[T any](behind T, list []T) []T {
	return append(slices.Clip(list), behind)[:len(list)]
}

// roomyModel is a model like it, with texts of its own and room behind each list.
func roomyModel(m api.Model) api.Model {
	m = model.Copy(m)
	for i := range m.Items {
		for _, row := range []*[]api.Sentry{&m.Items[i].Entry, &m.Items[i].Exit} {
			for j := range *row {
				(*row)[j].On = roomy(api.On{Item: "behind", Event: 9}, (*row)[j].On)
				(*row)[j].If = roomy(api.Cond{File: "behind", Op: "?", N: 9}, (*row)[j].If)
			}
			*row = roomy(api.Sentry{On: []api.On{{Item: "behind"}}}, *row)
		}
	}
	m.Files, m.Items = roomy("behind", m.Files), roomy(api.Item{ID: "behind", Parent: "plan"}, m.Items)
	return m
}

// wholeSentry is a sentry with what stands in the room behind the ends of its lists.
func wholeSentry(s api.Sentry) api.Sentry {
	return api.Sentry{On: slices.Clone(s.On[:cap(s.On)]), If: slices.Clone(s.If[:cap(s.If)])}
}

// wholeModel is a model with what stands in the room behind the ends of its lists.
func wholeModel(m api.Model) api.Model {
	sentries := func(row []api.Sentry) []api.Sentry {
		row = slices.Clone(row[:cap(row)])
		for i := range row {
			row[i] = wholeSentry(row[i])
		}
		return row
	}
	m.Files, m.Items = slices.Clone(m.Files[:cap(m.Files)]), slices.Clone(m.Items[:cap(m.Items)])
	for i := range m.Items {
		m.Items[i].Entry, m.Items[i].Exit = sentries(m.Items[i].Entry), sentries(m.Items[i].Exit)
	}
	return m
}

// doubled is a model in no order in which much stands twice.
func doubled() api.Model {
	m := backwards(sorted())
	for i := range m.Items {
		for _, row := range []*[]api.Sentry{&m.Items[i].Entry, &m.Items[i].Exit} {
			for j, s := range *row {
				if len(s.If) == 1 {
					(*row)[j].If = append(s.If, s.If[0])
				}
			}
			if len(*row) > 0 && len(*row) < api.MaxSentries {
				*row = append(*row, (*row)[0])
			}
		}
	}
	return m
}

// tangled is a model whose lists are one memory, wherever they can be.
func tangled() api.Model {
	ons := []api.On{{Item: "x", Event: api.Start}, {Item: "p", Event: api.Exit}}
	conds := []api.Cond{{File: "g", Op: "<", N: 1}, {File: "f", Op: "<", N: 1}}
	row := []api.Sentry{{On: ons, If: conds}, {On: ons[:1], If: conds[1:]}, {On: ons[:0], If: conds[:1]}}
	m := asks(row, row)
	m.Items[2].Entry, m.Items[2].Exit = row[:2], row[1:]
	return m
}

// P7.2: what is handed in is not changed, not even behind the end of its
// lists; nor does it count what stands there.
func TestNothingIsChanged(t *testing.T) {
	wrong := backwards(sorted())
	wrong.Items[3].Kind = 9
	for i, m := range []api.Model{sorted(), fullest(), backwards(fullest()), doubled(), tangled(), wrong} {
		m = roomyModel(m)
		want := wholeModel(m)
		got, is := norm.Normal(m), norm.Is(m)
		if model.Is(m) && !model.Same(got, ordered(m)) || is != (i < 2) {
			t.Errorf("%d: %v of %v", i, got, m)
		}
		if !reflect.DeepEqual(wholeModel(m), want) {
			t.Errorf("%d: %v, not %v", i, wholeModel(m), want)
		}
	}
	a := api.Sentry{On: roomy(api.On{Item: "behind"}, []api.On{{Item: "b"}, {Item: "a"}}), If: roomy(api.Cond{File: "behind"}, []api.Cond{{File: "b"}, {File: "a"}, {File: "a"}})}
	b := api.Sentry{On: roomy(api.On{}, a.On), If: roomy(api.Cond{}, a.If)}
	wantA, wantB := wholeSentry(a), wholeSentry(b)
	if norm.CmpSentry(a, b) != 0 || !reflect.DeepEqual(wholeSentry(a), wantA) || !reflect.DeepEqual(wholeSentry(b), wantB) {
		t.Error(wholeSentry(a), wholeSentry(b))
	}
}

// P7.2: lists that share memory where they are handed in are not changed, and
// are put in order each for itself.
func TestTangledListsAreNotChanged(t *testing.T) {
	m, want := tangled(), model.Copy(tangled())
	got := norm.Normal(m)
	if !reflect.DeepEqual(m, tangled()) || !model.Same(m, want) || !model.Same(got, ordered(want)) {
		t.Errorf("%v of %v", got, m)
	}
	apart(t, rooms("normal", reflect.ValueOf(got)), rooms("given", reflect.ValueOf(m)))
}

// P7.2, W6: what is answered is new memory, down to the last text; so it is of
// a model that is in order.
func TestNormalIsNewMemory(t *testing.T) {
	for _, m := range []api.Model{sorted(), fullest(), backwards(fullest()), doubled(), tangled()} {
		m = roomyModel(m)
		given := rooms("given", reflect.ValueOf(m))
		first, second := norm.Normal(m), norm.Normal(m)
		got := rooms("normal", reflect.ValueOf(first))
		if len(got) < 20 {
			t.Fatal(len(got))
		}
		apart(t, got, given, rooms("other", reflect.ValueOf(second)), rooms("again", reflect.ValueOf(norm.Normal(first))))
	}
}

// W6: lists that are answered have no room that is another's; appended to, they leave all else as it was.
func TestAppendedRows(t *testing.T) {
	for _, m := range []api.Model{sorted(), fullest(), doubled(), tangled()} {
		got, want := norm.Normal(m), ordered(m)
		_ = append(got.Files, "zz")
		for i := range got.Items {
			for _, row := range [][]api.Sentry{got.Items[i].Entry, got.Items[i].Exit} {
				for _, s := range row {
					_ = append(s.On, api.On{Item: "zz"})
					_ = append(s.If, api.Cond{File: "zz"})
				}
				_ = append(row, api.Sentry{On: []api.On{{Item: "zz"}}})
			}
		}
		_ = append(got.Items, api.Item{ID: "zz"})
		if !model.Same(got, want) {
			t.Errorf("%v, not %v", got, want)
		}
	}
}

// W7: what was answered stays what it is, whatever is changed or called later.
func TestWhatIsChangedLater(t *testing.T) {
	m := backwards(fullest())
	got, other := norm.Normal(m), norm.Normal(m)
	for _, x := range []api.Model{m, other} {
		for i := range x.Items {
			for _, s := range slices.Concat(x.Items[i].Entry, x.Items[i].Exit) {
				clear(s.On)
				clear(s.If)
			}
			clear(x.Items[i].Entry)
			clear(x.Items[i].Exit)
		}
		clear(x.Files)
		clear(x.Items)
	}
	norm.Normal(doubled())
	if !model.Same(got, fullest()) {
		t.Error(got)
	}
}
