package pack_test

import (
	"bytes"
	"reflect"
	"slices"
	"strconv"
	"testing"
	"unsafe"

	"sentry/api"
	"sentry/model"
	"sentry/pack"
)

// room is the memory that a list or a text has, its spare room too.
type room struct {
	path       string
	list       bool
	begin, end uintptr
}

// rooms are those of all lists and texts of a thing.
func rooms(path string, v reflect.Value) []room {
	var out []room
	switch v.Kind() {
	case reflect.Struct:
		for i := range v.NumField() {
			out = append(out, rooms(path+"."+v.Type().Field(i).Name, v.Field(i))...)
		}
	case reflect.Slice:
		begin := v.Pointer()
		out = append(out, room{path, true, begin, begin + uintptr(v.Cap())*v.Type().Elem().Size()})
		for i := range v.Len() {
			out = append(out, rooms(path+"["+strconv.Itoa(i)+"]", v.Index(i))...)
		}
	case reflect.String:
		begin := uintptr(unsafe.Pointer(unsafe.StringData(v.String())))
		out = append(out, room{path, false, begin, begin + uintptr(v.Len())})
	}
	return out
}

func overlap(a, b room) bool {
	return a.begin < b.end && b.begin < a.end
}

// apart tells where an answer shares memory with others, or two of its lists do.
func apart(t *testing.T, got []room, others ...[]room) {
	t.Helper()
	for i, a := range got {
		for _, b := range slices.Concat(others...) {
			if overlap(a, b) {
				t.Errorf("%s shares memory with %s", a.path, b.path)
			}
		}
		for _, b := range got[:i] {
			if a.list && b.list && overlap(a, b) {
				t.Errorf("%s shares memory with %s", a.path, b.path)
			}
		}
	}
}

// roomy is a list with room behind its end, in which something stands.
func roomy[T any](behind T, list []T) []T {
	return append(slices.Clip(list), behind)[:len(list)]
}

// roomyModel is the good model with texts of its own, and room behind each list.
func roomyModel() api.Model {
	m := model.Copy(good())
	for i := range m.Items {
		for _, row := range []*[]api.Sentry{&m.Items[i].Entry, &m.Items[i].Exit} {
			for j := range *row {
				(*row)[j].On = roomy(api.On{Item: "behind", Event: 9}, (*row)[j].On)
				(*row)[j].If = roomy(api.Cond{File: "behind", Op: "?", N: 9}, (*row)[j].If)
			}
			*row = roomy(api.Sentry{On: []api.On{{Item: "behind"}}}, *row)
		}
	}
	m.Files, m.Items = roomy("behind", m.Files), roomy(api.Item{ID: "behind", Parent: "plan"}, m.Items)
	return m
}

// wholeModel is a model with what stands in the room behind the ends of its lists.
func wholeModel(m api.Model) api.Model {
	sentries := func(row []api.Sentry) []api.Sentry {
		row = slices.Clone(row[:cap(row)])
		for i := range row {
			row[i].On = slices.Clone(row[i].On[:cap(row[i].On)])
			row[i].If = slices.Clone(row[i].If[:cap(row[i].If)])
		}
		return row
	}
	m.Files, m.Items = slices.Clone(m.Files[:cap(m.Files)]), slices.Clone(m.Items[:cap(m.Items)])
	for i := range m.Items {
		m.Items[i].Entry, m.Items[i].Exit = sentries(m.Items[i].Entry), sentries(m.Items[i].Exit)
	}
	return m
}

// P6.3: what is handed in is not changed, not even behind the end of its lists;
// nor does it count what stands there.
func TestNothingIsChanged(t *testing.T) {
	bad := roomyModel()
	bad.Items[3].Parent = "zz"
	for _, m := range []api.Model{roomyModel(), bad} {
		want := wholeModel(m)
		b, err := pack.Pack(m)
		if (err == api.OK) != model.Is(m) || err == api.OK && !bytes.Equal(b, packed(good())) {
			t.Error(b, err)
		}
		if !reflect.DeepEqual(wholeModel(m), want) {
			t.Errorf("%v, not %v", wholeModel(m), want)
		}
	}
	whole := append(packed(good()), "more that stands behind"...)
	for k := range len(whole) + 1 {
		b := bytes.Clone(whole)
		pack.Sum(b[:k])
		if _, err := pack.Unpack(b[:k]); (err == api.OK) != (k == len(packed(good()))) {
			t.Error(k, err)
		}
		if !bytes.Equal(b, whole) {
			t.Errorf("%d: %v", k, b)
		}
	}
}

// P6.3, W6: what is answered is new memory, down to the last text.
func TestAnswersAreNewMemory(t *testing.T) {
	for _, m := range []api.Model{roomyModel(), model.Copy(fullest())} {
		b := packed(m)
		given := rooms("given", reflect.ValueOf(b))
		first, _ := pack.Unpack(b)
		second, _ := pack.Unpack(b)
		got := rooms("model", reflect.ValueOf(first))
		if len(got) < 50 {
			t.Fatal(len(got))
		}
		apart(t, got, given[:1], rooms("other", reflect.ValueOf(second)))

		one, _ := pack.Pack(m)
		two, _ := pack.Pack(m)
		apart(t, rooms("bytes", reflect.ValueOf(one))[:1], rooms("other", reflect.ValueOf(two))[:1], rooms("given", reflect.ValueOf(m)))
	}
}

// P6.3: bytes that are changed behind Unpack do not change the model; nor does
// a model that is changed behind Pack change the bytes; nor do answers.
func TestWhatIsChangedLater(t *testing.T) {
	b := packed(good())
	m, _ := pack.Unpack(b)
	other, _ := pack.Unpack(b)
	for i := range b {
		b[i] = 'x'
	}
	if !model.Same(m, good()) {
		t.Error(m)
	}
	packedOnce, _ := pack.Pack(m)
	packedTwice, _ := pack.Pack(m)
	m.Files = append(m.Files[:0], "x", "y")
	_ = append(m.Items[:0], make([]api.Item, cap(m.Items))...)
	if !bytes.Equal(packedOnce, packed(good())) || !model.Same(other, good()) {
		t.Error(packedOnce, other)
	}
	for i := range packedOnce[:cap(packedOnce)] {
		packedOnce[:cap(packedOnce)][i] = 'x'
	}
	if x, err := pack.Pack(good()); err != api.OK || !bytes.Equal(x, packedTwice) || !bytes.Equal(x, packed(good())) {
		t.Error(x, err)
	}
}

// W6: rows that have room behind their end do not reach into others.
func TestAppendedRows(t *testing.T) {
	m, _ := pack.Unpack(packed(good()))
	m.Files = append(m.Files, "zz")
	for i := range m.Items {
		item := &m.Items[i]
		for _, row := range []*[]api.Sentry{&item.Entry, &item.Exit} {
			for j := range *row {
				_ = append((*row)[j].On, api.On{Item: "zz"})
				_ = append((*row)[j].If, api.Cond{File: "zz"})
			}
			_ = append(*row, api.Sentry{On: []api.On{{Item: "zz"}}})
		}
	}
	_ = append(m.Items, api.Item{ID: "zz"})
	m.Files = m.Files[:2]
	if !model.Same(m, good()) {
		t.Error(m)
	}
}
