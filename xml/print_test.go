package xml_test

import (
	encoding "encoding/xml"
	"math/rand"
	"reflect"
	"strings"
	"testing"

	"sentry/api"
	"sentry/name"
	"sentry/xml"
)

// P2.2: Print, byte by byte.
func TestPrint(t *testing.T) {
	attr := func(value string) api.Elem {
		return api.Elem{Name: "a", Attrs: []api.Attr{{Name: "x", Value: value}}}
	}
	for _, x := range []struct {
		e    api.Elem
		want string
	}{
		{api.Elem{Name: "a"}, "<a/>"},
		{api.Elem{Name: "a", At: 7}, "<a/>"},
		{api.Elem{Name: "p:a", Attrs: []api.Attr{}, Kids: []api.Elem{}}, "<p:a/>"},
		{attr(""), `<a x=""/>`},
		{attr(" 1 "), `<a x=" 1 "/>`},
		{attr(`&<>"'`), `<a x="&amp;&lt;&gt;&quot;'"/>`},
		{attr("\t\n\r"), `<a x="&#9;&#10;&#13;"/>`},
		{attr("&amp;"), `<a x="&amp;amp;"/>`},
		{attr("\u00e9\ufffd\U0001f600"), "<a x=\"\u00e9\ufffd\U0001f600\"/>"},
		{api.Elem{Name: "a", Attrs: []api.Attr{{Name: "y", Value: "1"}, {Name: "p:x", Value: "2"}, {Name: "a", Value: "3"}}}, `<a y="1" p:x="2" a="3"/>`},
		{api.Elem{Name: "a", Kids: []api.Elem{{Name: "b"}}}, "<a><b/></a>"},
		{api.Elem{Name: "a", Attrs: []api.Attr{{Name: "x", Value: "1"}}, Kids: []api.Elem{{Name: "c"}, {Name: "b", Kids: []api.Elem{{Name: "q:d", Attrs: []api.Attr{{Name: "z"}}}}}, {Name: "c"}}}, `<a x="1"><c/><b><q:d z=""/></b><c/></a>`},
	} {
		if got := xml.Print(x.e); got != x.want {
			t.Errorf("%q, not %q", got, x.want)
		}
	}
}

// P2.2: Same; each of the others differs from the first in one thing.
func TestSame(t *testing.T) {
	sample := func() api.Elem {
		return api.Elem{Name: "a", Attrs: []api.Attr{{Name: "x", Value: "1"}, {Name: "y", Value: "2"}}, Kids: []api.Elem{{Name: "b", Kids: []api.Elem{{Name: "d", Attrs: []api.Attr{{Name: "z", Value: "3"}}}}}, {Name: "c"}}}
	}
	turns := []func(e *api.Elem){
		func(e *api.Elem) { e.Name = "A" },
		func(e *api.Elem) { e.Name = "p:a" },
		func(e *api.Elem) { e.Name = "" },
		func(e *api.Elem) { e.Attrs = nil },
		func(e *api.Elem) { e.Attrs = e.Attrs[:1] },
		func(e *api.Elem) { e.Attrs = e.Attrs[1:] },
		func(e *api.Elem) { e.Attrs = append(e.Attrs, api.Attr{Name: "q"}) },
		func(e *api.Elem) { e.Attrs = append(e.Attrs, e.Attrs[0]) },
		func(e *api.Elem) { e.Attrs[0], e.Attrs[1] = e.Attrs[1], e.Attrs[0] },
		func(e *api.Elem) { e.Attrs[0].Name = "X" },
		func(e *api.Elem) { e.Attrs[0].Value = "" },
		func(e *api.Elem) { e.Attrs[1].Value = "2 " },
		func(e *api.Elem) { e.Kids = nil },
		func(e *api.Elem) { e.Kids = e.Kids[:1] },
		func(e *api.Elem) { e.Kids = e.Kids[1:] },
		func(e *api.Elem) { e.Kids = append(e.Kids, api.Elem{}) },
		func(e *api.Elem) { e.Kids[0], e.Kids[1] = e.Kids[1], e.Kids[0] },
		func(e *api.Elem) { e.Kids[1].Name = "C" },
		func(e *api.Elem) { e.Kids[0].Kids = nil },
		func(e *api.Elem) { e.Kids[0].Kids[0].Name = "D" },
		func(e *api.Elem) { e.Kids[0].Kids[0].Attrs[0].Value = "4" },
		func(e *api.Elem) { e.Kids[1].Kids = e.Kids[0].Kids; e.Kids[0].Kids = nil },
	}
	if !xml.Same(sample(), sample()) || !xml.Same(api.Elem{}, api.Elem{}) {
		t.Error("one is not itself")
	}
	for i, turn := range turns {
		a, b := sample(), sample()
		turn(&b)
		if xml.Same(a, b) || xml.Same(b, a) {
			t.Errorf("turn %d makes no difference", i)
		}
	}
}

// P2.2: At does not count, at no depth. W5: nor whether a list without elements is nil.
func TestSameWhereOnlyAtDiffers(t *testing.T) {
	a := api.Elem{Name: "a", Kids: []api.Elem{{Name: "b", Attrs: []api.Attr{{Name: "x"}}, Kids: []api.Elem{{Name: "c", At: 9}}, At: 4}}, At: 1}
	b := api.Elem{Name: "a", Attrs: []api.Attr{}, Kids: []api.Elem{{Name: "b", Attrs: []api.Attr{{Name: "x"}}, Kids: []api.Elem{{Name: "c", Attrs: []api.Attr{}, Kids: []api.Elem{}, At: -1}}}}}
	if !xml.Same(a, b) || !xml.Same(b, a) {
		t.Error("At counts, or an empty list is not a nil one")
	}
	one, _, _ := xml.Parse("<a><b x=''/></a>")
	two, _, _ := xml.Parse(" <a >\n<b x=\"\" ></b> </a><!-- -->")
	if one.At == two.At || !xml.Same(one, two) {
		t.Error("one element, written in two ways, is two")
	}
}

// W6: what is handed in is not changed, not even behind the end of its lists.
func TestPrintAndSameChangeNothing(t *testing.T) {
	sample := func() api.Elem {
		attrs := append([]api.Attr{{Name: "x", Value: "<"}}, api.Attr{Name: "behind", Value: "1"})[:1]
		kids := append([]api.Elem{{Name: "b", At: 3}}, api.Elem{Name: "behind"})[:1]
		return api.Elem{Name: "a", Attrs: attrs, Kids: kids, At: 5}
	}
	a, b, want := sample(), sample(), sample()
	xml.Print(a)
	xml.Same(a, b)
	for _, e := range []api.Elem{a, b} {
		if !reflect.DeepEqual(e, want) || e.Attrs[:2][1].Name != "behind" || e.Kids[:2][1].Name != "behind" {
			t.Errorf("%v", e)
		}
	}
}

// W1: trees whose names and values are none, and deep ones, neither panic nor hang.
func TestPrintAndSameOfAnyTree(t *testing.T) {
	odd := api.Elem{Name: "\xff<", Attrs: []api.Attr{{}, {Name: "=", Value: "\xff\x00"}, {}}, Kids: []api.Elem{{}, {Name: strings.Repeat("x", 1<<20)}}, At: -1 << 63}
	if xml.Print(odd) == "" || !xml.Same(odd, odd) || xml.Same(odd, api.Elem{}) {
		t.Error("an odd tree")
	}
	deep, other := api.Elem{Name: "a"}, api.Elem{Name: "b"}
	for range 1<<16 - 1 {
		deep, other = api.Elem{Name: "a", Kids: []api.Elem{deep}}, api.Elem{Name: "a", Kids: []api.Elem{other}}
	}
	if n := len(xml.Print(deep)); n != 7*(1<<16-1)+4 || !xml.Same(deep, deep) || xml.Same(deep, other) {
		t.Error("a deep tree", n)
	}
}

// tree is an element of at most left elements, that keeps to the limits.
func tree(r *rand.Rand, deep int, left *int) api.Elem {
	*left--
	e := api.Elem{Name: qual(r), At: r.Intn(100)}
	for range r.Intn(api.MaxAttrs + 1) {
		a := api.Attr{Name: qual(r), Value: value(r)}
		twice := false
		for _, b := range e.Attrs {
			twice = twice || a.Name == b.Name
		}
		if !twice {
			e.Attrs = append(e.Attrs, a)
		}
	}
	for deep < api.MaxDeep && *left > 0 && r.Intn(3) > 0 {
		e.Kids = append(e.Kids, tree(r, deep+1, left))
	}
	return e
}

func plain(r *rand.Rand) string {
	const first, more = "abzAZ_", "abzAZ_09-."
	s := first[r.Intn(len(first)):][:1]
	for range r.Intn(api.MaxName) {
		s += more[r.Intn(len(more)):][:1]
	}
	return s
}

func qual(r *rand.Rand) string {
	if r.Intn(3) == 0 {
		return plain(r) + ":" + plain(r)
	}
	return plain(r)
}

func value(r *rand.Rand) string {
	signs := []string{"&", "<", ">", `"`, "'", "\t", "\n", "\r", " ", "a", "amp;", "-->", "\u00e9", "\ud7ff", "\ue000", "\ufffd", "\U00010000", "\U0010ffff"}
	s := ""
	for range r.Intn(24) {
		if x := signs[r.Intn(len(signs))]; len(s)+len(x) <= api.MaxValue {
			s += x
		}
	}
	return s
}

// P2.3: Parse of Print is it; each At is where the element's text begins.
func TestParseOfPrint(t *testing.T) {
	r := rand.New(rand.NewSource(3))
	read := 0
	for range 4000 {
		left := 1 + r.Intn(40)
		e := tree(r, 1, &left)
		s := xml.Print(e)
		if len(s) > api.MaxDoc {
			continue
		}
		read++
		again, n, err := xml.Parse(s)
		if n != len(s) || err != api.OK || !xml.Same(e, again) {
			t.Fatalf("%q: %d %d", s, n, err)
		}
		if xml.Print(again) != s {
			t.Fatalf("%q is printed otherwise the second time", s)
		}
		placed(t, s, again)
	}
	if read < 1000 {
		t.Errorf("only %d texts were short enough", read)
	}
}

// placed holds each At against the text of its element.
func placed(t *testing.T, s string, e api.Elem) {
	t.Helper()
	if !strings.HasPrefix(s[e.At:], xml.Print(e)) {
		t.Fatalf("%q does not stand at %d", xml.Print(e), e.At)
	}
	for _, k := range e.Kids {
		placed(t, s, k)
	}
}

// P2.3: elements that just keep to the limits.
func TestParseOfPrintAtTheLimits(t *testing.T) {
	deep := api.Elem{Name: "a"}
	for range api.MaxDeep - 1 {
		deep = api.Elem{Name: "a", Kids: []api.Elem{deep}}
	}
	wide := api.Elem{Name: "a"}
	for range api.MaxElems - 1 {
		wide.Kids = append(wide.Kids, api.Elem{Name: "b:c"})
	}
	full := api.Elem{Name: strings.Repeat("n", api.MaxName) + ":" + strings.Repeat("m", api.MaxName)}
	for i := range api.MaxAttrs {
		full.Attrs = append(full.Attrs, api.Attr{Name: string(rune('a' + i)), Value: strings.Repeat("&", api.MaxValue)})
	}
	for i, e := range []api.Elem{deep, wide, full} {
		s := xml.Print(e)
		if again, n, err := xml.Parse(s); n != len(s) || err != api.OK || !xml.Same(e, again) {
			t.Errorf("%d: %d %d", i, n, err)
		}
	}
	// One more of each is printed, but read no more.
	for i, e := range []api.Elem{{Name: "a", Kids: []api.Elem{deep}}, {Name: "a", Kids: []api.Elem{wide}}} {
		if _, _, err := xml.Parse(xml.Print(e)); err != api.ErrFull {
			t.Errorf("%d: %d", i, err)
		}
	}
}

// P2.2: what is printed is read as the same by the language's own reader.
func TestPrintIsReadElsewhere(t *testing.T) {
	r := rand.New(rand.NewSource(4))
	for range 500 {
		left := 1 + r.Intn(20)
		e := tree(r, 1, &left)
		d := encoding.NewDecoder(strings.NewReader(xml.Print(e)))
		if got := elsewhere(t, d); !xml.Same(got, e) {
			t.Fatalf("%q is read as %q", xml.Print(e), xml.Print(got))
		}
	}
}

// elsewhere is the first element that a decoder reads.
func elsewhere(t *testing.T, d *encoding.Decoder) api.Elem {
	stack := []api.Elem{{}}
	for {
		token, err := d.RawToken()
		if err != nil {
			t.Fatal(err)
		}
		switch x := token.(type) {
		case encoding.StartElement:
			e := api.Elem{Name: joined(x.Name)}
			for _, a := range x.Attr {
				e.Attrs = append(e.Attrs, api.Attr{Name: joined(a.Name), Value: a.Value})
			}
			stack = append(stack, e)
		case encoding.EndElement:
			e := stack[len(stack)-1]
			stack = stack[:len(stack)-1]
			stack[len(stack)-1].Kids = append(stack[len(stack)-1].Kids, e)
			if len(stack) == 1 {
				return stack[0].Kids[0]
			}
		}
	}
}

// joined is a name as it is written.
func joined(n encoding.Name) string {
	if n.Space == "" {
		return n.Local
	}
	s := n.Space + ":" + n.Local
	if !name.IsQual(s) {
		return ""
	}
	return s
}
