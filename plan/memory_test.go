package plan_test

import (
	"reflect"
	"slices"
	"strconv"
	"strings"
	"testing"
	"unsafe"

	"sentry/api"
	"sentry/model"
	"sentry/plan"
)

// room is the memory that a list or a text has, its spare room too.
type room struct {
	path       string
	begin, end uintptr
}

// rooms are those of all lists and texts of a thing, and of all that it points to.
func rooms(path string, v reflect.Value) []room {
	var out []room
	switch v.Kind() {
	case reflect.Pointer:
		if !v.IsNil() {
			out = rooms(path, v.Elem())
		}
	case reflect.Struct:
		for i := range v.NumField() {
			out = append(out, rooms(path+"."+v.Type().Field(i).Name, v.Field(i))...)
		}
	case reflect.Map:
		for each := v.MapRange(); each.Next(); {
			out = slices.Concat(out, rooms(path+" key", each.Key()), rooms(path+" value", each.Value()))
		}
	case reflect.Slice:
		begin := v.Pointer()
		out = append(out, room{path, begin, begin + uintptr(v.Cap())*v.Type().Elem().Size()})
		for i := range v.Len() {
			out = append(out, rooms(path+"["+strconv.Itoa(i)+"]", v.Index(i))...)
		}
	case reflect.String:
		begin := uintptr(unsafe.Pointer(unsafe.StringData(v.String())))
		out = append(out, room{path, begin, begin + uintptr(v.Len())})
	}
	return out
}

// apart tells where a thing shares memory with others.
func apart(t *testing.T, got []room, others ...[]room) {
	t.Helper()
	for _, a := range got {
		for _, b := range slices.Concat(others...) {
			if a.begin < b.end && b.begin < a.end {
				t.Errorf("%s shares memory with %s", a.path, b.path)
			}
		}
	}
}

// roomy is a list with room behind its end, in which something stands.
func roomy[T any](behind T, list []T) []T {
	return append(slices.Clip(list), behind)[:len(list)]
}

// roomyModel is a model like it, with texts of its own and room behind each list.
func roomyModel(m api.Model) api.Model {
	m = model.Copy(m)
	for i := range m.Items {
		for _, row := range []*[]api.Sentry{&m.Items[i].Entry, &m.Items[i].Exit} {
			for j := range *row {
				(*row)[j].On = roomy(api.On{Item: "behind", Event: 9}, (*row)[j].On)
				(*row)[j].If = roomy(api.Cond{File: "behind", Op: "?", N: 9}, (*row)[j].If)
			}
			*row = roomy(api.Sentry{On: []api.On{{Item: "behind"}}}, *row)
		}
	}
	m.Files, m.Items = roomy("behind", m.Files), roomy(api.Item{ID: "behind", Kind: api.Task, Parent: "p"}, m.Items)
	return m
}

// wholeModel is a model with what stands in the room behind the ends of its lists.
func wholeModel(m api.Model) api.Model {
	sentries := func(row []api.Sentry) []api.Sentry {
		row = slices.Clone(row[:cap(row)])
		for i, s := range row {
			row[i] = api.Sentry{On: slices.Clone(s.On[:cap(s.On)]), If: slices.Clone(s.If[:cap(s.If)])}
		}
		return row
	}
	m.Files, m.Items = slices.Clone(m.Files[:cap(m.Files)]), slices.Clone(m.Items[:cap(m.Items)])
	for i := range m.Items {
		m.Items[i].Entry, m.Items[i].Exit = sentries(m.Items[i].Entry), sentries(m.Items[i].Exit)
	}
	return m
}

// much is a model in which much happens, and acts that make it.
func much() (api.Model, []api.Act) {
	m := of(task("a").must().leave(cond(when("f", ">", 7)), cond(when("g", ">", 7), when("f", "<", 0))), hear("l"), timer("w", 2),
		stage("s").enter(api.Sentry{On: []api.On{on("l", api.Occur), on("a", api.Start)}, If: []api.Cond{when("f", "<=", 3)}}, exited("w")),
		task("b").in("s").must(), timer("v", 1).in("s"), mile("m").enter(wait(on("v", api.Occur), on("w", api.Occur), on("b", api.Complete))))
	return m, []api.Act{tick(), write("f", 3), occur("l"), tick(), complete("b"), write("g", -1), tick(), exit("a")}
}

// own is an act with texts of its own.
func own(a api.Act) api.Act {
	a.Item, a.File = strings.Clone(a.Item), strings.Clone(a.File)
	return a
}

// P9.3: what is handed in is not changed, not even behind the end of its
// lists, nor does it count what stands there.
func TestNothingIsChanged(t *testing.T) {
	m, acts := much()
	wrong := model.Copy(m)
	wrong.Items[3].Kind = 9
	for _, m := range []api.Model{m, wrong, of()} {
		given := roomyModel(m)
		want := wholeModel(given)
		c, err := plan.New(given)
		if (err == api.OK) != model.Is(m) {
			t.Fatal(err)
		}
		for _, a := range acts {
			c.Do(a)
			c.States()
			c.Met("a", true, 1)
		}
		if !reflect.DeepEqual(wholeModel(given), want) {
			t.Errorf("%v, not %v", wholeModel(given), want)
		}
	}
}

// P9.3: what is handed in is not kept, down to the last text.
func TestNothingIsKept(t *testing.T) {
	m, acts := much()
	given := roomyModel(m)
	c, _ := plan.New(given)
	all := rooms("given", reflect.ValueOf(given))
	inside := func() []room { return rooms("case", reflect.ValueOf(c)) }
	if len(inside()) < 20 {
		t.Fatal(len(inside()))
	}
	apart(t, inside(), all)
	for _, a := range acts {
		a = own(a)
		if err := c.Do(a); err != api.OK {
			t.Fatal(a, err)
		}
		c.State(a.Item)
		c.File(a.File)
		c.Met(a.Item, true, 0)
		apart(t, inside(), all, rooms("act", reflect.ValueOf(a)))
	}
	if letters(c.States()) != "DGDDDDDD" {
		t.Error(letters(c.States()))
	}
}

// P9.3, W6: States are new memory, with no spare room that is another's.
func TestStatesAreNewMemory(t *testing.T) {
	m, acts := much()
	c, _ := plan.New(m)
	for _, a := range acts {
		first, second := c.States(), c.States()
		apart(t, rooms("first", reflect.ValueOf(first)), rooms("second", reflect.ValueOf(second)), rooms("case", reflect.ValueOf(c)))
		want := slices.Clone(first)
		_ = append(first, 9)
		for i := range first {
			first[i] = 9
		}
		if !slices.Equal(second, want) || !slices.Equal(c.States(), want) {
			t.Errorf("%v, %v, not %v", second, c.States(), want)
		}
		// W7: and it stays what it is, whatever is done behind it.
		c.Do(a)
		if !slices.Equal(second, want) {
			t.Errorf("%v, not %v", second, want)
		}
	}
}

// W6, W7: two cases of one model go on each for itself.
func TestTwoOfOneModel(t *testing.T) {
	m, acts := much()
	a, b := try(t, m), try(t, m)
	calm := try(t, m)
	for i, act := range acts {
		a.do(act)
		b.do(acts[(i*3+1)%len(acts)])
		calm.hold("untouched")
	}
	a.hold("behind all")
	b.hold("behind all")
	apart(t, rooms("a", reflect.ValueOf(a.c)), rooms("b", reflect.ValueOf(b.c)), rooms("calm", reflect.ValueOf(calm.c)))
}

// W8: a Case that is copied as a value goes on, if the other one is used no more.
func TestCopiedAsAValue(t *testing.T) {
	m, acts := much()
	for at := range acts {
		x := try(t, m)
		for i, a := range acts {
			if i == at {
				other := *x.c
				x.c = &other
			}
			x.do(a)
		}
	}
}
