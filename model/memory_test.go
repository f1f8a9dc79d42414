package model_test

import (
	"reflect"
	"slices"
	"strings"
	"testing"
	"unsafe"

	"sentry/api"
	"sentry/model"
)

// room is the memory that a list or a text has, its spare room too.
type room struct {
	path       string
	begin, end uintptr
}

// rooms are those of all lists and texts of a thing.
func rooms(path string, v reflect.Value) []room {
	var out []room
	for _, x := range visits(path, v) {
		switch x.v.Kind() {
		case reflect.Slice:
			begin := x.v.Pointer()
			out = append(out, room{x.path, begin, begin + uintptr(x.v.Cap())*x.v.Type().Elem().Size()})
		case reflect.String:
			s := x.v.String()
			begin := uintptr(unsafe.Pointer(unsafe.StringData(s)))
			out = append(out, room{x.path, begin, begin + uintptr(len(s))})
		}
	}
	return out
}

func overlap(a, b room) bool {
	return a.begin < b.end && b.begin < a.end
}

// roomy is a list with room behind its end, in which something stands.
func roomy[T any](behind T, list []T) []T {
	return append(slices.Clip(list), behind)[:len(list)]
}

// roomySample is the sample with room behind each list.
func roomySample() api.Model {
	m := sample()
	for i := range m.Items {
		for _, row := range []*[]api.Sentry{&m.Items[i].Entry, &m.Items[i].Exit} {
			for j := range *row {
				(*row)[j].On = roomy(api.On{Item: "behind", Event: 9}, (*row)[j].On)
				(*row)[j].If = roomy(api.Cond{File: "behind", Op: "?", N: 9}, (*row)[j].If)
			}
			*row = roomy(api.Sentry{On: []api.On{{Item: "behind"}}}, *row)
		}
	}
	m.Files, m.Items = roomy("behind", m.Files), roomy(api.Item{ID: "behind", Parent: "plan"}, m.Items)
	return m
}

// whole is a model with what stands in the room behind the ends of its lists.
func whole(m api.Model) api.Model {
	sentries := func(row []api.Sentry) []api.Sentry {
		row = slices.Clone(row[:cap(row)])
		for i := range row {
			row[i].On = slices.Clone(row[i].On[:cap(row[i].On)])
			row[i].If = slices.Clone(row[i].If[:cap(row[i].If)])
		}
		return row
	}
	m.Files, m.Items = slices.Clone(m.Files[:cap(m.Files)]), slices.Clone(m.Items[:cap(m.Items)])
	for i := range m.Items {
		m.Items[i].Entry, m.Items[i].Exit = sentries(m.Items[i].Entry), sentries(m.Items[i].Exit)
	}
	return m
}

// P4.3: what is handed in is not changed, not even behind the end of its lists.
func TestNothingIsChanged(t *testing.T) {
	bad := roomySample()
	bad.Items[3].Parent = "zz"
	for _, m := range []api.Model{roomySample(), bad} {
		want := whole(m)
		model.Is(m)
		model.Same(m, roomySample())
		model.Same(roomySample(), m)
		for i := range m.Items {
			model.SameItem(m.Items[i], sample().Items[i])
			model.SameSentries(m.Items[i].Entry, m.Items[i].Exit)
		}
		model.Place(m, "time")
		model.Place(m, "behind")
		model.Kids(m, "plan")
		model.Copy(m)
		if !reflect.DeepEqual(whole(m), want) {
			t.Errorf("%v, not %v", whole(m), want)
		}
	}
}

// W6: what stands behind a list's end is not looked at either.
func TestSpareRoomIsNotTold(t *testing.T) {
	m := roomySample()
	if !model.Is(m) || !model.Same(m, sample()) || model.Place(m, "behind") != -1 || !slices.Equal(model.Kids(m, "plan"), []int{1, 5, 6}) || !reflect.DeepEqual(model.Copy(m), sample()) {
		t.Error("the room behind a list counts")
	}
}

// P4.2, W6: Copy is new memory down to the last row and the last text: it
// shares none with what was handed in, nor with another answer, nor do its rows.
func TestCopyIsNewMemory(t *testing.T) {
	m := roomySample()
	for i := range m.Items {
		cloneTexts(&m.Items[i])
	}
	m.Files[0], m.Files[1] = strings.Clone("f"), strings.Clone("g")
	first, second := model.Copy(m), model.Copy(m)
	given := rooms("given", reflect.ValueOf(&m).Elem())
	other := rooms("other", reflect.ValueOf(&second).Elem())
	got := rooms("copy", reflect.ValueOf(&first).Elem())
	if len(got) < 50 {
		t.Fatal(len(got))
	}
	for i, a := range got {
		for _, b := range slices.Concat(given, other, got[:i]) {
			if overlap(a, b) {
				t.Errorf("%s shares memory with %s", a.path, b.path)
			}
		}
	}
}

// cloneTexts gives an item's texts memory of their own: constants share theirs.
func cloneTexts(x *api.Item) {
	x.ID, x.Parent = strings.Clone(x.ID), strings.Clone(x.Parent)
	for _, s := range slices.Concat(x.Entry, x.Exit) {
		for i := range s.On {
			s.On[i].Item = strings.Clone(s.On[i].Item)
		}
		for i := range s.If {
			s.If[i].File, s.If[i].Op = strings.Clone(s.If[i].File), strings.Clone(s.If[i].Op)
		}
	}
}

// W6: rows that are one where they are handed in are several in a copy.
func TestCopyOfSharedRows(t *testing.T) {
	row := []api.Sentry{{On: []api.On{{Item: "a", Event: 1}}, If: []api.Cond{{File: "f", Op: "="}}}, {On: []api.On{{Item: "b", Event: 1}}}}
	row[1].If = row[0].If
	m := api.Model{Items: []api.Item{{ID: "a", Entry: row, Exit: row}, {ID: "b", Entry: row[:1], Exit: row[1:]}}}
	want := model.Copy(m)
	c := model.Copy(m)
	all := rooms("copy", reflect.ValueOf(&c).Elem())
	for i, a := range all {
		for _, b := range all[:i] {
			if overlap(a, b) {
				t.Errorf("%s shares memory with %s", a.path, b.path)
			}
		}
	}
	c.Items[0].Entry[0].If[0].N, c.Items[0].Entry[1].On[0].Event = 9, 9
	c.Items[0].Entry[0].On[0].Event, c.Items[0].Entry[1].If[0].N = 9, 9
	c.Items[0].Entry = want.Items[0].Entry
	if !model.Same(c, want) {
		t.Errorf("%v", c)
	}
}

// W6: lists without an element have no room of what was handed in.
func TestCopyOfEmptyRows(t *testing.T) {
	files := []string{"f", "g"}
	row := []api.Sentry{{On: []api.On{{Item: "a"}}}}
	c := model.Copy(api.Model{Files: files[:0], Items: []api.Item{{ID: "a", Entry: row[:0], Exit: []api.Sentry{{On: row[0].On[:0]}}}}})
	_ = append(c.Files, "z")
	_ = append(c.Items[0].Entry, api.Sentry{})
	_ = append(c.Items[0].Exit[0].On, api.On{Item: "z"})
	if files[0] != "f" || len(row[0].On) != 1 || row[0].On[0].Item != "a" {
		t.Error(files, row)
	}
}

// W6, W7: Kids is new memory each time, and stays what it is.
func TestKidsIsNewMemory(t *testing.T) {
	m := sample()
	first, second := model.Kids(m, "plan"), model.Kids(m, "plan")
	full := second[:cap(second)]
	for i := range full {
		full[i] = -9
	}
	m.Items[5].Parent, m.Items[6].Parent = "outer", "outer"
	model.Kids(m, "outer")
	if !slices.Equal(first, []int{1, 5, 6}) {
		t.Error(first)
	}
}
