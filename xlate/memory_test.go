package xlate_test

import (
	"reflect"
	"slices"
	"strconv"
	"strings"
	"testing"
	"unsafe"

	"sentry/api"
	"sentry/model"
	"sentry/rules"
	"sentry/xlate"
)

// room is the memory that a list or a text has, its spare room too.
type room struct {
	path       string
	begin, end uintptr
}

// rooms are those of all lists and texts of a thing.
func rooms(path string, v reflect.Value) []room {
	var out []room
	switch v.Kind() {
	case reflect.Struct:
		for i := range v.NumField() {
			out = append(out, rooms(path+"."+v.Type().Field(i).Name, v.Field(i))...)
		}
	case reflect.Slice:
		begin := v.Pointer()
		out = append(out, room{path, begin, begin + uintptr(v.Cap())*v.Type().Elem().Size()})
		for i := range v.Len() {
			out = append(out, rooms(path+"["+strconv.Itoa(i)+"]", v.Index(i))...)
		}
	case reflect.String:
		begin := uintptr(unsafe.Pointer(unsafe.StringData(v.String())))
		out = append(out, room{path, begin, begin + uintptr(v.Len())})
	}
	return out
}

// roomsOf are those of a thing that the test names so.
func roomsOf(name string, thing any) []room { return rooms(name, reflect.ValueOf(thing)) }

// apart tells where things share memory with one another, or one with itself.
func apart(t *testing.T, things ...[]room) {
	t.Helper()
	all := slices.Concat(things...)
	all = slices.DeleteFunc(all, func(r room) bool { return r.begin == r.end })
	slices.SortFunc(all, func(a, b room) int { return int(a.begin) - int(b.begin) })
	for i := range all[1:] {
		if a, b := all[i], all[i+1]; b.begin < a.end {
			t.Errorf("%s shares memory with %s", a.path, b.path)
		}
	}
}

// roomy puts room behind each row of a thing, in which something stands, and
// has each text be one of its own.
func roomy(v reflect.Value) {
	switch v.Kind() {
	case reflect.Struct:
		for i := range v.NumField() {
			roomy(v.Field(i))
		}
	case reflect.Slice:
		for i := range v.Len() {
			roomy(v.Index(i))
		}
		n := v.Len()
		row := reflect.MakeSlice(v.Type(), n+3, n+3)
		reflect.Copy(row, v)
		for i := n; i < n+3; i++ {
			marked(row.Index(i))
		}
		v.Set(row.Slice(0, n))
	case reflect.String:
		v.SetString(strings.Clone(v.String()))
	}
}

// marked puts in each field of a thing what may stand there, but does not.
func marked(v reflect.Value) {
	switch v.Kind() {
	case reflect.Struct:
		for i := range v.NumField() {
			marked(v.Field(i))
		}
	case reflect.Slice:
		v.Set(reflect.MakeSlice(v.Type(), 1, 1))
		marked(v.Index(0))
	case reflect.Int:
		v.SetInt(1)
	case reflect.String:
		v.SetString("behind")
	case reflect.Bool:
		v.SetBool(true)
	}
}

// roomyModel is a model like it, with texts of its own and room behind each row.
func roomyModel(m api.Model) api.Model {
	m = model.Copy(m)
	roomy(reflect.ValueOf(&m).Elem())
	return m
}

// roomyProgram is the program of a model likewise.
func roomyProgram(m api.Model) api.Program {
	p, _ := xlate.To(m)
	roomy(reflect.ValueOf(&p).Elem())
	return p
}

// whole is a thing with what stands in the room behind the ends of its rows.
func whole(v reflect.Value) reflect.Value {
	out := reflect.New(v.Type()).Elem()
	switch v.Kind() {
	case reflect.Struct:
		for i := range v.NumField() {
			out.Field(i).Set(whole(v.Field(i)))
		}
	case reflect.Slice:
		v = v.Slice(0, v.Cap())
		out.Set(reflect.MakeSlice(v.Type(), v.Len(), v.Len()))
		for i := range v.Len() {
			out.Index(i).Set(whole(v.Index(i)))
		}
	case reflect.String:
		out.SetString(strings.Clone(v.String()))
	default:
		out.Set(v)
	}
	return out
}

func wholeOf(thing any) any { return whole(reflect.ValueOf(thing)).Interface() }

// wipe makes all that stands in a thing's rows nothing.
func wipe(v reflect.Value) {
	switch v.Kind() {
	case reflect.Struct:
		for i := range v.NumField() {
			wipe(v.Field(i))
		}
	case reflect.Slice:
		v = v.Slice(0, v.Cap())
		for i := range v.Len() {
			wipe(v.Index(i))
			v.Index(i).SetZero()
		}
	}
}

// P12.3: what is handed in is not changed, not even behind the end of its
// rows, nor does it count what stands there.
func TestNothingIsChanged(t *testing.T) {
	wrong := sample()
	wrong.Items[7].Parent = "zz"
	for i, m := range []api.Model{sample(), of(), wrong} {
		given := roomyModel(m)
		want := wholeOf(given)
		p, err := xlate.To(given)
		plain, wantErr := xlate.To(m)
		if err != wantErr || !rules.Same(p, plain) {
			t.Error(i, err, wantErr)
		}
		up := []bool{true, false, true, true, true}
		xlate.States(given, up[:3])
		xlate.Flag(given, "a", api.Open)
		if !reflect.DeepEqual(wholeOf(given), want) || !slices.Equal(up, []bool{true, false, true, true, true}) {
			t.Errorf("%v, not %v", wholeOf(given), want)
		}
	}
	for i, p := range []api.Program{roomyProgram(sample()), roomyProgram(of()), {Notes: roomyModel(sample()).Items}} {
		want := wholeOf(p)
		if _, err := xlate.From(p); (err == api.OK) != (i < 2) {
			t.Error(i, err)
		}
		if !reflect.DeepEqual(wholeOf(p), want) {
			t.Errorf("%v, not %v", wholeOf(p), want)
		}
	}
}

// P12.3, W6: what To answers is new memory, down to the last text, and no two
// lists of it share any.
func TestProgramsAreNewMemory(t *testing.T) {
	for _, m := range []api.Model{sample(), of(), most()} {
		given := roomyModel(m)
		a, _ := xlate.To(given)
		b, _ := xlate.To(given)
		if len(roomsOf("a", a)) < 10 {
			t.Fatal(len(roomsOf("a", a)))
		}
		apart(t, roomsOf("given", given), roomsOf("a", a), roomsOf("b", b))
		// W7: it stays what it is.
		want, _ := xlate.To(m)
		wipe(reflect.ValueOf(&given).Elem())
		wipe(reflect.ValueOf(&b).Elem())
		xlate.To(sample())
		if !rules.Same(a, want) {
			t.Errorf("%+v, not %+v", a, want)
		}
	}
}

// P12.3, W6: what From answers is new memory likewise.
func TestModelsAreNewMemory(t *testing.T) {
	for _, m := range []api.Model{sample(), of(), most()} {
		given := roomyProgram(m)
		a, _ := xlate.From(given)
		b, _ := xlate.From(given)
		if len(roomsOf("a", a)) < 4 {
			t.Fatal(len(roomsOf("a", a)))
		}
		apart(t, roomsOf("given", given), roomsOf("a", a), roomsOf("b", b))
		wipe(reflect.ValueOf(&given).Elem())
		wipe(reflect.ValueOf(&b).Elem())
		if !model.Same(a, m) {
			t.Errorf("%+v, not %+v", a, m)
		}
	}
}

// W6, W7: States are new memory each time.
func TestStatesAreNewMemory(t *testing.T) {
	m := of(task("a"))
	up := []bool{false, true, false, false, true}
	a, b := xlate.States(m, up), xlate.States(m, up)
	apart(t, roomsOf("up", up), roomsOf("a", a), roomsOf("b", b))
	clear(up)
	clear(b[:cap(b)])
	if !slices.Equal(a, []int{api.Open, api.Ready}) {
		t.Error(a)
	}
}

// W2: asked again the answer is the same.
func TestTheSameAgain(t *testing.T) {
	want, _ := xlate.To(sample())
	for range 20 {
		if p, err := xlate.To(sample()); err != api.OK || !reflect.DeepEqual(p, want) {
			t.Fatal("another program")
		}
	}
}
