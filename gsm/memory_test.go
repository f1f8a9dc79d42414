package gsm_test

import (
	"reflect"
	"slices"
	"strconv"
	"strings"
	"testing"
	"unsafe"

	"sentry/api"
	"sentry/gsm"
)

// room is the memory that a list or a text has, its spare room too.
type room struct {
	path       string
	begin, end uintptr
}

// rooms are those of all lists and texts of a thing, and of all that it points to.
func rooms(path string, v reflect.Value) []room {
	var out []room
	switch v.Kind() {
	case reflect.Pointer:
		if !v.IsNil() {
			begin := v.Pointer()
			out = append(rooms(path, v.Elem()), room{path, begin, begin + v.Type().Elem().Size()})
		}
	case reflect.Struct:
		for i := range v.NumField() {
			out = append(out, rooms(path+"."+v.Type().Field(i).Name, v.Field(i))...)
		}
	case reflect.Map:
		for each := v.MapRange(); each.Next(); {
			out = slices.Concat(out, rooms(path+" key", each.Key()), rooms(path+" value", each.Value()))
		}
	case reflect.Slice:
		begin := v.Pointer()
		out = append(out, room{path, begin, begin + uintptr(v.Cap())*v.Type().Elem().Size()})
		for i := range v.Len() {
			out = append(out, rooms(path+"["+strconv.Itoa(i)+"]", v.Index(i))...)
		}
	case reflect.String:
		begin := uintptr(unsafe.Pointer(unsafe.StringData(v.String())))
		out = append(out, room{path, begin, begin + uintptr(v.Len())})
	}
	return out
}

// roomsOf are those of a thing that the test names so.
func roomsOf(name string, thing any) []room { return rooms(name, reflect.ValueOf(thing)) }

// apart tells where a thing shares memory with others.
func apart(t *testing.T, got []room, others ...[]room) {
	t.Helper()
	for _, a := range got {
		for _, b := range slices.Concat(others...) {
			if a.begin < b.end && b.begin < a.end {
				t.Errorf("%s shares memory with %s", a.path, b.path)
			}
		}
	}
}

// roomy puts room behind each row of a thing, in which something stands, and
// has each text be one of its own.
func roomy(v reflect.Value) {
	switch v.Kind() {
	case reflect.Struct:
		for i := range v.NumField() {
			roomy(v.Field(i))
		}
	case reflect.Slice:
		for i := range v.Len() {
			roomy(v.Index(i))
		}
		n := v.Len()
		row := reflect.MakeSlice(v.Type(), n+3, n+3)
		reflect.Copy(row, v)
		for i := n; i < n+3; i++ {
			marked(row.Index(i))
		}
		v.Set(row.Slice(0, n))
	case reflect.String:
		v.SetString(strings.Clone(v.String()))
	}
}

// marked puts in each field of a thing what may be in a program, but is not there.
func marked(v reflect.Value) {
	switch v.Kind() {
	case reflect.Struct:
		for i := range v.NumField() {
			marked(v.Field(i))
		}
	case reflect.Slice:
		v.Set(reflect.MakeSlice(v.Type(), 1, 1))
		marked(v.Index(0))
	case reflect.Int:
		v.SetInt(1)
	case reflect.String:
		v.SetString("behind")
	case reflect.Bool:
		v.SetBool(true)
	}
}

// roomyProgram is a program like it, with texts of its own and room behind each row.
func roomyProgram(p api.Program) api.Program {
	p = copyOf(p)
	roomy(reflect.ValueOf(&p).Elem())
	return p
}

// whole is a thing with what stands in the room behind the ends of its rows.
func whole(v reflect.Value) reflect.Value {
	out := reflect.New(v.Type()).Elem()
	switch v.Kind() {
	case reflect.Struct:
		for i := range v.NumField() {
			out.Field(i).Set(whole(v.Field(i)))
		}
	case reflect.Slice:
		v = v.Slice(0, v.Cap())
		out.Set(reflect.MakeSlice(v.Type(), v.Len(), v.Len()))
		for i := range v.Len() {
			out.Index(i).Set(whole(v.Index(i)))
		}
	case reflect.String:
		out.SetString(strings.Clone(v.String()))
	default:
		out.Set(v)
	}
	return out
}

func wholeOf(p api.Program) any { return whole(reflect.ValueOf(p)).Interface() }

// much is a program that has all there is, and acts of which one errs.
func much() (api.Program, []api.Act) {
	p := restless()
	p.First, p.Over, p.From = []int{2}, []int{4}, 1
	p.Counters = []api.Counter{count(2, 2, 7), count(2, 4, 6), count(3, 3, 8)}
	p.Users = append(p.Users, may("a", 2, "0 -1", 5), may("b", 1, "-3 2", 7))
	p.Notes = []api.Item{{ID: "plan", Kind: api.Stage, Entry: []api.Sentry{{On: []api.On{{Item: "a", Event: 1}}, If: []api.Cond{cond("f", "<", 1)}}}}}
	return p, []api.Act{write("h", 1), tick(), tick(), user("a", 1), write("f", 1), user("a", 1), write("f", 7), tick(), user("b", 1), tick(), tick()}
}

// P11.3: what is handed in is not changed, not even behind the end of its
// rows, nor does it count what stands there.
func TestNothingIsChanged(t *testing.T) {
	p, acts := much()
	wrong := copyOf(p)
	wrong.Rules[3].Stratum = 0
	never := copyOf(p)
	never.Rules = append(never.Rules, rule(2, "-0", "0"), rule(2, "0", "-0"))
	for i, p := range []api.Program{p, wrong, of(3, 1), never} {
		given := roomyProgram(p)
		want := wholeOf(given)
		m, err := gsm.New(given)
		plain, wantErr := gsm.New(p)
		if err != wantErr {
			t.Error(i, err, wantErr)
		}
		for _, a := range acts {
			if m.Do(a) != plain.Do(a) || !slices.Equal(m.Flags(), plain.Flags()) {
				t.Error(i, a)
			}
			m.File(a.File)
		}
		if !reflect.DeepEqual(wholeOf(given), want) {
			t.Errorf("%v, not %v", wholeOf(given), want)
		}
	}
}

// P11.3: what is handed in is not kept, down to the last text.
func TestNothingIsKept(t *testing.T) {
	p, acts := much()
	given := roomyProgram(p)
	m, _ := gsm.New(given)
	all := roomsOf("given", given)
	inside := func() []room { return roomsOf("machine", m) }
	if len(inside()) < 40 {
		t.Fatal(len(inside()))
	}
	apart(t, inside(), all)
	errors := map[api.Errno]int{}
	for _, a := range acts {
		a.Item, a.File = strings.Clone(a.Item), strings.Clone(a.File)
		errors[m.Do(a)]++
		m.File(a.File)
		apart(t, inside(), all, roomsOf("act", a))
	}
	if errors[api.OK] < 8 || errors[api.ErrFull]+errors[api.ErrState] < 1 {
		t.Error(errors)
	}
}

// P11.3: what is turned in a program behind New does not count, field by field.
func TestTurnedBehindNew(t *testing.T) {
	p, acts := much()
	plain, _ := gsm.New(p)
	given := roomyProgram(p)
	m, _ := gsm.New(given)
	for i := range given.Rules {
		for k := range given.Rules[i].If {
			given.Rules[i].If[k].Not = !given.Rules[i].If[k].Not
		}
		for k := range given.Rules[i].Then {
			given.Rules[i].Then[k].Up = !given.Rules[i].Then[k].Up
		}
		for k := range given.Rules[i].Conds {
			given.Rules[i].Conds[k] = cond("g", "!=", 77)
		}
		given.Rules[i].Stratum = 20 - i
	}
	for i := range given.Users {
		given.Users[i].Item, given.Users[i].Then = "zz", 0
		for k := range given.Users[i].While {
			given.Users[i].While[k].Not = !given.Users[i].While[k].Not
		}
	}
	for i := range given.Counters {
		given.Counters[i] = count(0, 1, 1)
	}
	given.First[0], given.Over[0] = 3, 2
	given.Files[0], given.Files[1], given.Files[2] = "g", "h", "f"
	for _, a := range acts {
		if got, want := m.Do(a), plain.Do(a); got != want || ups(m) != ups(plain) {
			t.Errorf("%v: %v, %s, not %v, %s", a, got, ups(m), want, ups(plain))
		}
	}
	for _, file := range p.Files {
		if m.File(file) != plain.File(file) {
			t.Error(file)
		}
	}
}

// P11.3, W6: Flags are new memory, with no spare room that is another's.
func TestFlagsAreNewMemory(t *testing.T) {
	p, acts := much()
	m, _ := gsm.New(p)
	for _, a := range acts {
		first, second := m.Flags(), m.Flags()
		apart(t, roomsOf("first", first), roomsOf("second", second), roomsOf("machine", m))
		want := slices.Clone(first)
		_ = append(first, true)
		for i := range first {
			first[i] = !first[i]
		}
		if !slices.Equal(second, want) || !slices.Equal(m.Flags(), want) {
			t.Errorf("%v, %v, not %v", second, m.Flags(), want)
		}
		// W7: and it stays what it is, whatever is done behind it.
		m.Do(a)
		if !slices.Equal(second, want) {
			t.Errorf("%v, not %v", second, want)
		}
	}
}

// W6, W7: two machines of one program go on each for itself.
func TestTwoOfOneProgram(t *testing.T) {
	p, acts := much()
	a, b, calm := try(t, p), try(t, p), try(t, p)
	for i, act := range acts {
		a.do(act)
		b.do(acts[(i*3+1)%len(acts)])
		calm.hold("untouched")
	}
	a.hold("behind all")
	b.hold("behind all")
	apart(t, roomsOf("a", a.m), roomsOf("b", b.m), roomsOf("calm", calm.m))
	apart(t, roomsOf("b", b.m), roomsOf("calm", calm.m))
}

// W8: a Machine that is copied as a value goes on, if the other one is used no more.
func TestCopiedAsAValue(t *testing.T) {
	p, acts := much()
	for at := range acts {
		x := try(t, p)
		for i, a := range acts {
			if i == at {
				other := *x.m
				x.m = &other
			}
			x.do(a)
		}
	}
}
