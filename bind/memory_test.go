package bind_test

import (
	"reflect"
	"slices"
	"strconv"
	"strings"
	"testing"
	"unsafe"

	"sentry/api"
	"sentry/bind"
	"sentry/model"
)

// room is the memory that a list or a text has, its spare room too.
type room struct {
	path       string
	list       bool
	begin, end uintptr
}

// rooms are those of all lists and texts of a thing, be it nested.
func rooms(path string, v reflect.Value) []room {
	var out []room
	switch v.Kind() {
	case reflect.Struct:
		for i := range v.NumField() {
			out = append(out, rooms(path+"."+v.Type().Field(i).Name, v.Field(i))...)
		}
	case reflect.Slice:
		begin := v.Pointer()
		out = append(out, room{path, true, begin, begin + uintptr(v.Cap())*v.Type().Elem().Size()})
		for i := range v.Len() {
			out = append(out, rooms(path+"["+strconv.Itoa(i)+"]", v.Index(i))...)
		}
	case reflect.String:
		begin := uintptr(unsafe.Pointer(unsafe.StringData(v.String())))
		out = append(out, room{path, false, begin, begin + uintptr(v.Len())})
	}
	return out
}

func overlap(a, b room) bool {
	return a.begin < b.end && b.begin < a.end
}

// apart tells where an answer shares memory with others, or two of its lists do.
func apart(t *testing.T, got []room, others ...[]room) {
	t.Helper()
	for i, a := range got {
		for _, b := range slices.Concat(others...) {
			if overlap(a, b) {
				t.Errorf("%s shares memory with %s", a.path, b.path)
			}
		}
		for _, b := range got[:i] {
			if a.list && b.list && overlap(a, b) {
				t.Errorf("%s shares memory with %s", a.path, b.path)
			}
		}
	}
}

// roomy is a list with room behind its end, in which something stands.
func roomy[T any](behind T, list []T) []T {
	return append(slices.Clip(list), behind)[:len(list)]
}

// roomyNamed is the full tree with texts of its own, and room behind each list.
func roomyNamed() api.Named {
	n := bind.To(full())
	row := elems(&n)
	slices.Reverse(row) // the innermost first: a list that moves takes them along
	for _, x := range row {
		for i, a := range x.Attrs {
			x.Attrs[i] = api.Attr{Name: strings.Clone(a.Name), Value: strings.Clone(a.Value)}
		}
		x.Space, x.Local = strings.Clone(x.Space), strings.Clone(x.Local)
		x.Attrs = roomy(api.Attr{Name: "behind", Value: "b"}, x.Attrs)
		x.Kids = roomy(api.Named{Local: "behind"}, x.Kids)
	}
	return n
}

// wholeNamed is a tree with what stands in the room behind the ends of its lists.
func wholeNamed(n api.Named) api.Named {
	n.Attrs = slices.Clone(n.Attrs[:cap(n.Attrs)])
	n.Kids = slices.Clone(n.Kids[:cap(n.Kids)])
	for i := range n.Kids {
		n.Kids[i] = wholeNamed(n.Kids[i])
	}
	return n
}

// roomyModel is the full model with texts of its own, and room behind each list.
func roomyModel() api.Model {
	m := model.Copy(full())
	for i := range m.Items {
		for _, row := range []*[]api.Sentry{&m.Items[i].Entry, &m.Items[i].Exit} {
			for j := range *row {
				(*row)[j].On = roomy(api.On{Item: "behind", Event: 9}, (*row)[j].On)
				(*row)[j].If = roomy(api.Cond{File: "behind", Op: "?", N: 9}, (*row)[j].If)
			}
			*row = roomy(api.Sentry{On: []api.On{{Item: "behind"}}}, *row)
		}
	}
	m.Files, m.Items = roomy("behind", m.Files), roomy(api.Item{ID: "behind", Parent: "plan"}, m.Items)
	return m
}

// wholeModel is likewise a model.
func wholeModel(m api.Model) api.Model {
	sentries := func(row []api.Sentry) []api.Sentry {
		row = slices.Clone(row[:cap(row)])
		for i := range row {
			row[i].On = slices.Clone(row[i].On[:cap(row[i].On)])
			row[i].If = slices.Clone(row[i].If[:cap(row[i].If)])
		}
		return row
	}
	m.Files, m.Items = slices.Clone(m.Files[:cap(m.Files)]), slices.Clone(m.Items[:cap(m.Items)])
	for i := range m.Items {
		m.Items[i].Entry, m.Items[i].Exit = sentries(m.Items[i].Entry), sentries(m.Items[i].Exit)
	}
	return m
}

// P5.3: what is handed in is not changed, not even behind the end of its lists.
func TestNothingIsChanged(t *testing.T) {
	wrong, none := roomyNamed(), roomyNamed()
	elems(&wrong)[12].Attrs[0].Name = "x"
	none.Kids[0].Attrs[0].Value = "g"
	for _, n := range []api.Named{roomyNamed(), wrong, none} {
		want := wholeNamed(n)
		bind.From(n)
		if !reflect.DeepEqual(wholeNamed(n), want) {
			t.Errorf("%v, not %v", wholeNamed(n), want)
		}
	}
	bad := roomyModel()
	bad.Items[3].Parent = "zz"
	for _, m := range []api.Model{roomyModel(), bad} {
		want := wholeModel(m)
		bind.To(m)
		bind.Save(m)
		if !reflect.DeepEqual(wholeModel(m), want) {
			t.Errorf("%v, not %v", wholeModel(m), want)
		}
	}
}

// W6: what stands behind a list's end is not looked at either.
func TestSpareRoomIsNotTold(t *testing.T) {
	if m, at, err := bind.From(roomyNamed()); at != 0 || err != api.OK || !model.Same(m, full()) {
		t.Error(m, at, err)
	}
	if !reflect.DeepEqual(bind.To(roomyModel()), bind.To(full())) {
		t.Error(bind.To(roomyModel()))
	}
}

// P5.3, W6: what is answered is new memory, down to the last text.
func TestAnswersAreNewMemory(t *testing.T) {
	n := roomyNamed()
	first, _, _ := bind.From(n)
	second, _, _ := bind.From(n)
	got := rooms("model", reflect.ValueOf(first))
	if len(got) < 50 {
		t.Fatal(len(got))
	}
	apart(t, got, rooms("given", reflect.ValueOf(n)), rooms("other", reflect.ValueOf(second)))

	s := strings.Clone(bind.Save(full()))
	loaded, _, _ := bind.Load(s)
	apart(t, rooms("loaded", reflect.ValueOf(loaded)), rooms("text", reflect.ValueOf(s)))

	m := roomyModel()
	one, two := bind.To(m), bind.To(m)
	var values []room // the words are the same each time: they are constants
	for _, r := range rooms("other", reflect.ValueOf(two)) {
		if r.list || strings.HasSuffix(r.path, ".Value") {
			values = append(values, r)
		}
	}
	apart(t, rooms("element", reflect.ValueOf(one)), rooms("given", reflect.ValueOf(m)), values)
	apart(t, rooms("saved", reflect.ValueOf(bind.Save(m))), rooms("given", reflect.ValueOf(m)))
}

// W6: rows that are one where they are handed in are several in an answer.
func TestSharedRows(t *testing.T) {
	kids := bind.To(full()).Kids[2].Kids[0].Kids[2].Kids[0].Kids
	attrs := []api.Attr{{Name: "id", Value: "a"}}
	sentry := func(local string) api.Named { return elem(local, kids) }
	row := []api.Named{sentry("entry"), sentry("exit")}
	task := api.Named{Space: urn, Local: "task", Attrs: attrs, Kids: row}
	other := api.Named{Space: urn, Local: "timer", Attrs: []api.Attr{{Name: "id", Value: "w"}, {Name: "ticks", Value: "1"}}, Kids: row[1:]}
	n := elem("case", []api.Named{elem("file", nil, "id", "f"), elem("file", nil, "id", "g"), elem("stage", []api.Named{task, other}, "id", "s")})
	m, at, err := bind.From(n)
	if err != api.OK {
		t.Fatal(at, err)
	}
	apart(t, rooms("model", reflect.ValueOf(m)), rooms("given", reflect.ValueOf(n)))

	sentries := []api.Sentry{{On: []api.On{{Item: "a", Event: api.Exit}}, If: []api.Cond{{File: "f", Op: "="}}}}
	m = with(api.Item{ID: "a", Kind: api.Task, Parent: "plan", Entry: sentries, Exit: sentries}, api.Item{ID: "b", Kind: api.Task, Parent: "plan", Entry: sentries, Exit: sentries})
	apart(t, rooms("element", reflect.ValueOf(bind.To(m))))
}
