package rules_test

import (
	"reflect"
	"slices"
	"testing"

	"sentry/api"
	"sentry/rules"
)

// roomy puts room behind each row of a thing, in which something stands.
func roomy(v reflect.Value) {
	switch v.Kind() {
	case reflect.Struct:
		for i := range v.NumField() {
			roomy(v.Field(i))
		}
	case reflect.Slice:
		for i := range v.Len() {
			roomy(v.Index(i))
		}
		n := v.Len()
		row := reflect.MakeSlice(v.Type(), n+3, n+3)
		reflect.Copy(row, v)
		for i := n; i < n+3; i++ {
			marked(row.Index(i))
		}
		v.Set(row.Slice(0, n))
	}
}

// marked puts in each field of a thing what stands nowhere else.
func marked(v reflect.Value) {
	switch v.Kind() {
	case reflect.Struct:
		for i := range v.NumField() {
			marked(v.Field(i))
		}
	case reflect.Slice:
		v.Set(reflect.MakeSlice(v.Type(), 1, 1))
		marked(v.Index(0))
	case reflect.Int:
		v.SetInt(77)
	case reflect.String:
		v.SetString("behind")
	case reflect.Bool:
		v.SetBool(true)
	}
}

// roomySample is the sample with room behind each row.
func roomySample() api.Program {
	p := sample()
	roomy(reflect.ValueOf(&p).Elem())
	return p
}

// whole is a thing with what stands in the room behind the ends of its rows.
func whole(v reflect.Value) reflect.Value {
	out := reflect.New(v.Type()).Elem()
	switch v.Kind() {
	case reflect.Struct:
		for i := range v.NumField() {
			out.Field(i).Set(whole(v.Field(i)))
		}
	case reflect.Slice:
		v = v.Slice(0, v.Cap())
		out.Set(reflect.MakeSlice(v.Type(), v.Len(), v.Len()))
		for i := range v.Len() {
			out.Index(i).Set(whole(v.Index(i)))
		}
	default:
		out.Set(v)
	}
	return out
}

func wholeOf(p api.Program) any { return whole(reflect.ValueOf(p)).Interface() }

// P10.3: what is handed in is not changed, not even behind the end of its rows.
func TestNothingIsChanged(t *testing.T) {
	wrong := roomySample()
	wrong.Rules[1].Stratum, wrong.Users[2].Then = 9, -1
	slices.Reverse(wrong.Files)
	for _, p := range []api.Program{roomySample(), wrong} {
		q := roomySample()
		want, wantQ := wholeOf(p), wholeOf(q)
		rules.Is(p)
		rules.Same(p, q)
		rules.Same(q, p)
		for flag := range 10 {
			rules.Reads(p, flag)
			rules.Writes(p, flag)
		}
		if !reflect.DeepEqual(wholeOf(p), want) || !reflect.DeepEqual(wholeOf(q), wantQ) {
			t.Errorf("%v, not %v", wholeOf(p), want)
		}
	}
}

// P10.3, W7: what is answered is new memory each time, spare room too, and
// stays what it is, whatever is changed or called later.
func TestAnswersAreNewMemory(t *testing.T) {
	p := sample()
	asks := []func() []int{
		func() []int { return rules.Reads(p, 1) },
		func() []int { return rules.Writes(p, 5) },
		func() []int { return rules.Reads(p, 2) },
		func() []int { return rules.Writes(p, 0) },
	}
	want := [][]int{{1, 6}, {1, 3}, {3}, {6}}
	for i, ask := range asks {
		for _, later := range asks {
			got, other := ask(), later()
			other = other[:cap(other)]
			for k := range other {
				other[k] = -9
			}
			_ = append(other, -9)
			if !slices.Equal(got, want[i]) {
				t.Errorf("%v, not %v", got, want[i])
			}
		}
	}
	kept := [][]int{}
	for _, ask := range asks {
		kept = append(kept, ask())
	}
	for i := range p.Rules {
		p.Rules[i].Stratum += 3
		clear(p.Rules[i].If)
		clear(p.Rules[i].Then)
	}
	for _, ask := range asks {
		ask()
	}
	if !reflect.DeepEqual(kept, want) {
		t.Errorf("%v, not %v", kept, want)
	}
	if !reflect.DeepEqual(rules.Reads(p, 0), []int{4, 6, 9}) {
		t.Error(rules.Reads(p, 0))
	}
}

// W6: an answer shares no memory with what was handed in, nor with itself asked again.
func TestRoomsApart(t *testing.T) {
	p := roomySample()
	for flag := range 9 {
		for _, ask := range []func(api.Program, int) []int{rules.Reads, rules.Writes} {
			a, b := ask(p, flag), ask(p, flag)
			if len(a) == 0 {
				continue
			}
			for _, row := range [][]int{b, p.First, p.Over} {
				if &a[:1][0] == &row[:1][0] {
					t.Error("one memory")
				}
			}
		}
	}
}
