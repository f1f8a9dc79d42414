package space_test

import (
	encoding "encoding/xml"
	"io"
	"math/rand"
	"reflect"
	"slices"
	"strings"
	"testing"

	"sentry/api"
	"sentry/space"
	"sentry/xml"
)

// parsed is a text's element.
func parsed(t *testing.T, s string) api.Elem {
	t.Helper()
	e, n, err := xml.Parse(s)
	if err != api.OK {
		t.Fatalf("%q: place %d, error %d", s, n, err)
	}
	return e
}

// hold holds an element against the oracle.
func hold(t *testing.T, e api.Elem) (api.Named, api.Errno) {
	t.Helper()
	n, at, err := space.Resolve(e)
	want, place, fault := asked(e)
	if at != place || err != fault {
		t.Fatalf("%s: place %d, error %d; not %d, %d", xml.Print(e), at, err, place, fault)
	}
	if !reflect.DeepEqual(n, want) {
		t.Fatalf("%s: %v, not %v", xml.Print(e), n, want)
	}
	return n, err
}

// told are the elements of a tree, in the order of their `<`: the space in braces, the name.
func told(n api.Named) string {
	out := "{" + n.Space + "}" + n.Local
	for _, k := range n.Kids {
		out += " " + told(k)
	}
	return out
}

// P3.1: the whole tree, with attributes and the places of all elements.
func TestResolveTree(t *testing.T) {
	s := " <k:case xmlns:k='urn:k' id='1' xmlns='urn:d' n=''>\n<item y='2' x='1'/><k:item xmlns='urn:e'><q/></k:item><!-- --><q/></k:case>"
	want := api.Named{
		Space: "urn:k", Local: "case", At: 1,
		Attrs: []api.Attr{{Name: "id", Value: "1"}, {Name: "n", Value: ""}},
		Kids: []api.Named{
			{Space: "urn:d", Local: "item", Attrs: []api.Attr{{Name: "y", Value: "2"}, {Name: "x", Value: "1"}}, At: strings.Index(s, "<item y")},
			{Space: "urn:k", Local: "item", Kids: []api.Named{{Space: "urn:e", Local: "q", At: strings.Index(s, "<q/>")}}, At: strings.Index(s, "<k:item")},
			{Space: "urn:d", Local: "q", At: strings.LastIndex(s, "<q/>")},
		},
	}
	n, at, err := space.Resolve(parsed(t, s))
	if at != 0 || err != api.OK || !reflect.DeepEqual(n, want) {
		t.Errorf("%v %d %d", n, at, err)
	}
}

// P3.1: the spaces of elements, by where they are named.
func TestResolveSpaces(t *testing.T) {
	for _, x := range []struct{ s, want string }{
		// No space at all.
		{"<a/>", "{}a"},
		{"<a x='1'><b y=''/><c><d/></c></a>", "{}a {}b {}c {}d"},
		// xmlns in an element, further within, and behind an element that had one.
		{"<a xmlns='u'><b/></a>", "{u}a {u}b"},
		{"<a xmlns='u'><b><c><d/></c></b><e/></a>", "{u}a {u}b {u}c {u}d {u}e"},
		{"<a xmlns='u'><b xmlns='v'><c/></b><d/></a>", "{u}a {v}b {v}c {u}d"},
		{"<a><b xmlns='u'/><c/></a>", "{}a {u}b {}c"},
		{"<a><b xmlns='u'><c xmlns='v'><d xmlns='w'/><e/></c><f/></b><g/></a>", "{}a {u}b {v}c {w}d {v}e {u}f {}g"},
		{"<a><b xmlns='u'/><c xmlns='v'/><d/></a>", "{}a {u}b {v}c {}d"},
		// xmlns with the value nothing.
		{"<a xmlns=''/>", "{}a"},
		{"<a xmlns='u'><b xmlns=''><c/><d xmlns='v'/></b><e/></a>", "{u}a {}b {}c {v}d {u}e"},
		{"<p:a xmlns:p='u' xmlns=''><b/><p:c/></p:a>", "{u}a {}b {u}c"},
		// A space that is named and is the one it was.
		{"<a xmlns='u'><b xmlns='u'><c/></b><d/></a>", "{u}a {u}b {u}c {u}d"},
		{"<p:a xmlns:p='u'><p:b xmlns:p='u'><p:c/></p:b><p:d/></p:a>", "{u}a {u}b {u}c {u}d"},
		// xmlns:p, likewise; it is not that of names without a prefix.
		{"<p:a xmlns:p='u'/>", "{u}a"},
		{"<a xmlns:p='u'/>", "{}a"},
		{"<p:a xmlns:p='u'><b/><p:c/><d><p:e/></d></p:a>", "{u}a {}b {u}c {}d {u}e"},
		{"<p:a xmlns:p='u'><p:b xmlns:p='v'><p:c/></p:b><p:d/></p:a>", "{u}a {v}b {v}c {u}d"},
		{"<a xmlns='u' xmlns:p='v'><p:b/><c/><p:d xmlns='w'><e/></p:d><f/></a>", "{u}a {v}b {u}c {v}d {w}e {u}f"},
		{"<a xmlns:p='v'><p:b xmlns:q='w'><q:c xmlns:p='x'><p:d/></q:c><p:e/></p:b></a>", "{}a {v}b {w}c {x}d {v}e"},
		{"<a><p:b xmlns:p='u'/><p:c xmlns:p='v'/></a>", "{}a {u}b {v}c"},
		// Two prefixes of one space; prefixes that differ by their case.
		{"<p:a xmlns:p='u' xmlns:q='u' xmlns='u'><q:b/><c/></p:a>", "{u}a {u}b {u}c"},
		{"<p:a xmlns:p='u' xmlns:P='v'><P:b/></p:a>", "{u}a {v}b"},
		{"<XML:a xmlns:XML='u' xmlns:Xmlns='v'><Xmlns:b/></XML:a>", "{u}a {v}b"},
		{"<x:a xmlns:x='u' xmlns:xmlnsx='v' xmlns:xmln='w'><xmlnsx:b/><xmln:c/></x:a>", "{u}a {v}b {w}c"},
		// The space stands ahead of other attributes or behind them.
		{"<p:a x='1' xmlns='v' y='2' xmlns:p='u' z='3'><b/></p:a>", "{u}a {v}b"},
		// Names that are xmlns or xml, without a prefix and behind one; a space that is a prefix, or odd.
		{"<xmlns xmlns='u'><xml/></xmlns>", "{u}xmlns {u}xml"},
		{"<p:xmlns xmlns:p='u'><p:xml/></p:xmlns>", "{u}xmlns {u}xml"},
		{"<p:a xmlns:p='p' xmlns='xmlns'><b/></p:a>", "{p}a {xmlns}b"},
		{"<a xmlns=' '><p:b xmlns:p='&lt;&amp;'/></a>", "{ }a {<&}b"},
	} {
		n, at, err := space.Resolve(parsed(t, x.s))
		if got := told(n); got != x.want || at != 0 || err != api.OK {
			t.Errorf("%s: %s, place %d, error %d; not %s", x.s, got, at, err, x.want)
		}
		hold(t, parsed(t, x.s))
	}
}

// P3.1: attributes but xmlns and xmlns:p stay, in their order, as they are.
func TestResolveAttributes(t *testing.T) {
	e := parsed(t, "<a xml='1' xmlns='u' XMLNS='2' xmlnsx='3' xmlns:p='v' p='4' b=' &lt; '/>")
	want := []api.Attr{{Name: "xml", Value: "1"}, {Name: "XMLNS", Value: "2"}, {Name: "xmlnsx", Value: "3"}, {Name: "p", Value: "4"}, {Name: "b", Value: " < "}}
	if n, _, err := space.Resolve(e); err != api.OK || !slices.Equal(n.Attrs, want) {
		t.Errorf("%v %d", n.Attrs, err)
	}
	// A name that stands twice in an element stays twice.
	twice := api.Elem{Name: "a", Attrs: []api.Attr{{Name: "x", Value: "1"}, {Name: "x", Value: "2"}, {Name: "x", Value: "1"}}}
	if n, _, err := space.Resolve(twice); err != api.OK || !slices.Equal(n.Attrs, twice.Attrs) {
		t.Errorf("%v %d", n.Attrs, err)
	}
}

// P3.1: of two in one element the last; behind the element what was ahead of it.
func TestResolveTwoInOneElement(t *testing.T) {
	two := func(name string, values ...string) []api.Attr {
		var out []api.Attr
		for _, v := range values {
			out = append(out, api.Attr{Name: name, Value: v}, api.Attr{Name: "x", Value: v})
		}
		return out
	}
	for _, x := range []struct {
		e    api.Elem
		want string
	}{
		{api.Elem{Name: "a", Attrs: two("xmlns", "u", "v")}, "{v}a"},
		{api.Elem{Name: "a", Attrs: two("xmlns", "v", "u", "w")}, "{w}a"},
		{api.Elem{Name: "a", Attrs: two("xmlns", "u", "")}, "{}a"},
		{api.Elem{Name: "a", Attrs: two("xmlns", "", "u")}, "{u}a"},
		{api.Elem{Name: "p:a", Attrs: two("xmlns:p", "u", "v")}, "{v}a"},
		{api.Elem{Name: "a", Kids: []api.Elem{{Name: "b", Attrs: two("xmlns", "u", "v"), Kids: []api.Elem{{Name: "c"}}}, {Name: "d"}}}, "{}a {v}b {v}c {}d"},
		{api.Elem{Name: "p:a", Attrs: two("xmlns:p", "t"), Kids: []api.Elem{{Name: "p:b", Attrs: two("xmlns:p", "u", "v", "w"), Kids: []api.Elem{{Name: "p:c"}}}, {Name: "p:d"}}}, "{t}a {w}b {w}c {t}d"},
	} {
		n, at, err := space.Resolve(x.e)
		if got := told(n); got != x.want || at != 0 || err != api.OK {
			t.Errorf("%s: %s, place %d, error %d; not %s", xml.Print(x.e), got, at, err, x.want)
		}
		hold(t, x.e)
	}
	// A prefix that two attributes name is unknown again behind the element.
	e := api.Elem{Name: "a", Kids: []api.Elem{{Name: "p:b", Attrs: two("xmlns:p", "u", "v")}, {Name: "p:c", At: 7}}}
	if n, at, err := space.Resolve(e); at != 7 || err != api.ErrSpace || !reflect.DeepEqual(n, api.Named{}) {
		t.Errorf("%v %d %d", n, at, err)
	}
	// None of two may be one that may not be.
	for _, values := range [][]string{{"", "u"}, {"u", ""}} {
		if _, at, err := space.Resolve(api.Elem{Name: "p:a", Attrs: two("xmlns:p", values...), At: 3}); at != 3 || err != api.ErrSpace {
			t.Errorf("%q: %d %d", values, at, err)
		}
	}
}

// P3.1: wrong elements; in each text the first fault's element has the name bad.
func TestResolveWrong(t *testing.T) {
	for _, s := range []string{
		// A prefix that is not known: nowhere, not there yet, not any more.
		"<p:bad/>", " <!-- --><p:bad/>", "<a xmlns='u'><p:bad/></a>", "<a xmlns:p='u'><q:bad/></a>", "<a xmlns:p='u'><P:bad/></a>", "<a xmlns:p='u'><u:bad/></a>",
		"<p:bad><b xmlns:p='u'/></p:bad>", "<a><p:bad/><b xmlns:p='u'/></a>", "<a><b xmlns:p='u'/><p:bad/></a>", "<a><p:b xmlns:p='u'><p:c/></p:b><p:bad/></a>",
		"<a><b><p:c xmlns:p='u'/></b><p:bad/></a>", "<a><b><p:c xmlns:p='u'/><p:bad/></b></a>", "<a p='u'><p:bad/></a>", "<a xmlns='p'><p:bad/></a>", "<xml:bad/>", "<a><xml:bad xmlns='u'/></a>",
		// An attribute with a prefix, whether that is known or not.
		"<bad p:x=''/>", "<bad xmlns:p='u' p:x=''/>", "<bad p:x='' xmlns:p='u'/>", "<a xmlns:p='u'><p:bad p:x='1'/></a>", "<a><bad x='1' y='2' q:z='3'/></a>", "<bad xml:lang='en'/>", "<bad p:xmlns='u'/>", "<bad XMLNS:p='u'/>", "<bad xmln:p='u'/>", "<bad xmlnsx:p='u'/>",
		// xmlns:p with the value nothing.
		"<bad xmlns:p=''/>", "<p:bad xmlns:p=''/>", "<a xmlns:p='u'><bad xmlns:p=''/></a>", "<a><bad x='1' xmlns='' xmlns:q='u' xmlns:p=''/></a>",
		// p that is xml or xmlns.
		"<bad xmlns:xml='u'/>", "<bad xmlns:xml='http://www.w3.org/XML/1998/namespace'/>", "<xml:bad xmlns:xml='u'/>", "<bad xmlns:xmlns='u'/>", "<bad xmlns:xmlns='http://www.w3.org/2000/xmlns/'/>", "<bad xmlns:xml=''/>", "<bad xmlns:xmlns=''/>", "<a><b/><bad xmlns:xmlns='u'/></a>",
		// An element whose own prefix is xmlns.
		"<xmlns:bad/>", "<xmlns:bad xmlns='u'/>", "<xmlns:bad xmlns:xmlns='u'/>", "<a xmlns='xmlns' xmlns:p='xmlns'><b/><xmlns:bad/></a>",
		// Two faults and more: the first `<` of them all.
		"<p:bad><q:b/></p:bad>", "<a><b/><p:bad/><q:d/></a>", "<a><b><q:bad/></b><d x:y=''/></a>", "<a><bad x:y=''><p:c/></bad></a>", "<a><bad xmlns:p=''><p:c/></bad></a>", "<bad xmlns:xml='u'><xml:b/></bad>",
		"<a><b><c><d/></c><c><d/><p:bad/></c></b><xmlns:e/></a>", "<p:bad p:x='' xmlns:p='' xmlns:xml='' q:y=''><xmlns:b/></p:bad>",
	} {
		want := badPlace(s)
		n, at, err := space.Resolve(parsed(t, s))
		if at != want || err != api.ErrSpace || !reflect.DeepEqual(n, api.Named{}) {
			t.Errorf("%s: %v, place %d, error %d; not %d, %d", s, n, at, err, want, api.ErrSpace)
		}
		hold(t, parsed(t, s))
	}
}

// badPlace is where the start tag of the first element named bad begins.
func badPlace(s string) int {
	return strings.LastIndexByte(s[:strings.Index(s, "bad")], '<')
}

// faults spoil an element, each in one way; each of them may not be wherever it is.
func faults() []func(e *api.Elem) {
	attr := func(name, value string) func(e *api.Elem) {
		return func(e *api.Elem) { e.Attrs = append(e.Attrs, api.Attr{Name: name, Value: value}) }
	}
	prefix := func(p string) func(e *api.Elem) {
		return func(e *api.Elem) { e.Name = p + ":a" }
	}
	return []func(e *api.Elem){prefix("z"), prefix("xml"), prefix("xmlns"), attr("p:x", ""), attr("xml:x", "u"), attr("xmlns:p", ""), attr("xmlns:xml", "u"), attr("xmlns:xmlns", "u")}
}

// twelve is a tree of twelve elements without a fault, and these in the order of their `<`.
func twelve() (*api.Elem, []*api.Elem) {
	root := api.Elem{Name: "p:a", Attrs: []api.Attr{{Name: "xmlns:p", Value: "u"}}, Kids: make([]api.Elem, 3)}
	order := []*api.Elem{&root}
	for i := range root.Kids {
		order = append(order, &root.Kids[i])
		root.Kids[i] = api.Elem{Name: "b", Attrs: []api.Attr{{Name: "xmlns", Value: "v"}}, Kids: make([]api.Elem, 2)}
		for j := range root.Kids[i].Kids {
			order = append(order, &root.Kids[i].Kids[j])
			root.Kids[i].Kids[j] = api.Elem{Name: "p:c"}
		}
	}
	last := order[len(order)-1]
	last.Kids = []api.Elem{{Name: "d", Attrs: []api.Attr{{Name: "xmlns:p", Value: "w"}}, Kids: []api.Elem{{Name: "p:e"}}}}
	return &root, append(order, &last.Kids[0], &last.Kids[0].Kids[0])
}

// P3.1: each fault at each element alone, then any two: the first in the
// order of their `<` is told, whatever the elements' At are.
func TestResolveFirstFault(t *testing.T) {
	places := []func(i int) int{
		func(i int) int { return i * 5 },
		func(i int) int { return 1000 - i },
		func(i int) int { return -i - 1 },
		func(i int) int { return i*7%12 - 6 },
	}
	_, order := twelve()
	for i := range order {
		for j := i; j < len(order); j++ {
			for k, first := range faults() {
				second := faults()[(k*3+i+j)%len(faults())]
				for _, place := range places {
					root, elems := twelve()
					for at, e := range elems {
						e.At = place(at)
					}
					first(elems[i])
					if j > i {
						second(elems[j])
					}
					if _, at, err := space.Resolve(*root); at != place(i) || err != api.ErrSpace {
						t.Fatalf("faults at %d and %d: place %d, error %d; not %d", i, j, at, err, place(i))
					}
				}
			}
		}
	}
	root, _ := twelve()
	if n, at, err := space.Resolve(*root); told(n) != "{u}a {v}b {u}c {u}c {v}b {u}c {u}c {v}b {u}c {u}c {v}d {w}e" || at != 0 || err != api.OK {
		t.Errorf("%s %d %d", told(n), at, err)
	}
}

// P3.1: At is handed on as it is, be it none of a text's.
func TestResolveKeepsAt(t *testing.T) {
	for _, at := range []int{0, 1, -1, 1<<63 - 1, -1 << 63} {
		e := api.Elem{Name: "a", Kids: []api.Elem{{Name: "b", At: at}}, At: at}
		if n, _, _ := space.Resolve(e); n.At != at || n.Kids[0].At != at {
			t.Errorf("%v", n)
		}
		e.Kids[0].Name = "p:b"
		if _, place, err := space.Resolve(e); place != at || err != api.ErrSpace {
			t.Errorf("%d %d", place, err)
		}
	}
}

// P3.1: trees at random, held against the oracle: without faults, with few, with many.
func TestResolveGrownTrees(t *testing.T) {
	r := rand.New(rand.NewSource(5))
	for _, wrong := range []int{1 << 30, 40, 8, 2} {
		good, bad := 0, 0
		for range 5000 {
			e := rooted(r, wrong)
			if r.Intn(8) == 0 {
				e.Attrs = e.Attrs[2:]
			}
			if _, err := hold(t, e); err == api.OK {
				good++
			} else {
				bad++
			}
		}
		if good < 20 || bad < 20 {
			t.Errorf("one in %d: %d are resolved, %d not", wrong, good, bad)
		}
	}
}

// P3.1: the names of a tree without faults are those that the language's own
// reader tells; but that it gives an element whose name is xmlns no space.
func TestResolveIsToldElsewhere(t *testing.T) {
	r := rand.New(rand.NewSource(6))
	for range 2000 {
		e := rooted(r, 1<<30)
		rename(&e, "xmlns", "other")
		n, _, err := space.Resolve(e)
		if err != api.OK {
			t.Fatalf("%s: %d", xml.Print(e), err)
		}
		if got := elsewhere(t, xml.Print(e)); got != told(n) {
			t.Fatalf("%s: %s, not %s", xml.Print(e), told(n), got)
		}
	}
}

// rename gives the elements of one name another one.
func rename(e *api.Elem, from, to string) {
	if e.Name == from {
		e.Name = to
	}
	for i := range e.Kids {
		rename(&e.Kids[i], from, to)
	}
}

// elsewhere are the elements of a text as the language's own reader tells them.
func elsewhere(t *testing.T, s string) string {
	t.Helper()
	d := encoding.NewDecoder(strings.NewReader(s))
	var out []string
	for {
		token, err := d.Token()
		if err == io.EOF {
			return strings.Join(out, " ")
		}
		if err != nil {
			t.Fatal(s, err)
		}
		if x, ok := token.(encoding.StartElement); ok {
			out = append(out, "{"+x.Name.Space+"}"+x.Name.Local)
		}
	}
}

// W1: trees whose names are none end without a panic, deep ones with their spaces.
func TestResolveOfAnyTree(t *testing.T) {
	for _, s := range []string{"", ":", "::", "a:", ":a", "a:b:c", "xmlns:", ":xmlns", "xmlns::", "xmlns:a:b", "\xff", "<", strings.Repeat("x", 1<<20)} {
		for _, name := range []string{s, "a"} {
			space.Resolve(api.Elem{Name: name, Attrs: []api.Attr{{Name: s}, {Name: s, Value: "u"}}, Kids: []api.Elem{{Name: s}}})
		}
	}
	if n, at, err := space.Resolve(api.Elem{Name: "a", Attrs: []api.Attr{}, Kids: []api.Elem{}}); len(n.Attrs) != 0 || len(n.Kids) != 0 || at != 0 || err != api.OK {
		t.Errorf("%v %d %d", n, at, err)
	}
}

// W1: a prefix of the outermost element is found at once, under very many others.
func TestResolveDeepTrees(t *testing.T) {
	const deep = 1<<16 - 1
	e := api.Elem{Name: "p:a"}
	for i := range 1 << 16 {
		e.Kids = append(e.Kids, api.Elem{Name: "p:b", At: i})
	}
	for range deep - 1 {
		e = api.Elem{Name: "p:a", Attrs: []api.Attr{{Name: "xmlns", Value: "v"}, {Name: "xmlns:q", Value: "w"}}, Kids: []api.Elem{e}}
	}
	e.Attrs = append(e.Attrs, api.Attr{Name: "xmlns:p", Value: "u"})
	n, at, err := space.Resolve(e)
	if at != 0 || err != api.OK || !space.Same(n, n) {
		t.Fatal(at, err)
	}
	for range deep - 1 {
		n = n.Kids[0]
	}
	if len(n.Kids) != 1<<16 || n.Space != "u" || n.Kids[1<<16-1].Space != "u" || n.Kids[1<<16-1].At != 1<<16-1 {
		t.Error(len(n.Kids), n.Space)
	}
}

// FuzzResolve holds any text's element against the oracle, and against Plain.
func FuzzResolve(f *testing.F) {
	for _, s := range []string{"<p:a xmlns:p='u' x='1'><b xmlns='v'><p:c/></b><d/></p:a>", "<a xmlns:p=''/>", "<xmlns:a/>", "<a p:x=''/>"} {
		f.Add(s)
	}
	f.Fuzz(func(t *testing.T, s string) {
		e, _, err := xml.Parse(s)
		if err != api.OK {
			return
		}
		if n, err := hold(t, e); err == api.OK {
			back(t, n)
		}
	})
}
