package space_test

import (
	"math/rand"
	"reflect"
	"slices"
	"strings"
	"testing"
	"unsafe"

	"sentry/api"
	"sentry/space"
	"sentry/xml"
)

// in is an element of a space, without attributes.
func in(s, local string, kids ...api.Named) api.Named {
	return api.Named{Space: s, Local: local, Kids: kids}
}

// P3.2: Plain, as it is printed.
func TestPlain(t *testing.T) {
	some := []api.Attr{{Name: "y", Value: "1"}, {Name: "x", Value: ""}, {Name: "y", Value: "2"}}
	for _, x := range []struct {
		n    api.Named
		want string
	}{
		// The outermost has its space, unless it is nothing.
		{in("", "a"), `<a/>`},
		{in("u", "a"), `<a xmlns="u"/>`},
		// Those within have theirs where it is another one than that of what they stand in.
		{in("", "a", in("", "b")), `<a><b/></a>`},
		{in("u", "a", in("u", "b", in("u", "c"))), `<a xmlns="u"><b><c/></b></a>`},
		{in("u", "a", in("v", "b")), `<a xmlns="u"><b xmlns="v"/></a>`},
		{in("", "a", in("v", "b"), in("", "c")), `<a><b xmlns="v"/><c/></a>`},
		{in("u", "a", in("", "b", in("", "c")), in("u", "d")), `<a xmlns="u"><b xmlns=""><c/></b><d/></a>`},
		// What stands further without, or beside, does not count.
		{in("u", "a", in("v", "b", in("u", "c"))), `<a xmlns="u"><b xmlns="v"><c xmlns="u"/></b></a>`},
		{in("u", "a", in("v", "b"), in("v", "c"), in("u", "d"), in("v", "e")), `<a xmlns="u"><b xmlns="v"/><c xmlns="v"/><d/><e xmlns="v"/></a>`},
		{in("", "a", in("u", "b", in("", "c", in("u", "d")))), `<a><b xmlns="u"><c xmlns=""><d xmlns="u"/></c></b></a>`},
		// It is the first attribute; then the others, in their order, as they are.
		{api.Named{Space: "u", Local: "a", Attrs: some}, `<a xmlns="u" y="1" x="" y="2"/>`},
		{api.Named{Local: "a", Attrs: some}, `<a y="1" x="" y="2"/>`},
		{in("u", "a", api.Named{Local: "b", Attrs: some[:1]}, api.Named{Space: "u", Local: "c", Attrs: some[1:2]}), `<a xmlns="u"><b xmlns="" y="1"/><c x=""/></a>`},
		{in(`<&"`, "xmlns"), `<xmlns xmlns="&lt;&amp;&quot;"/>`},
		{api.Named{}, `</>`},
	} {
		if got := xml.Print(space.Plain(x.n)); got != x.want {
			t.Errorf("%s, not %s", got, x.want)
		}
	}
}

// W5: the chapter gives what is plain no place.
func TestPlainHasNoPlaces(t *testing.T) {
	n := api.Named{Space: "u", Local: "a", Kids: []api.Named{{Local: "b", At: -2}}, At: 9}
	want := api.Elem{Name: "a", Attrs: []api.Attr{{Name: "xmlns", Value: "u"}}, Kids: []api.Elem{{Name: "b", Attrs: []api.Attr{{Name: "xmlns"}}}}}
	if e := space.Plain(n); !reflect.DeepEqual(e, want) {
		t.Errorf("%v", e)
	}
}

// sample is a tree that has all there is to compare.
func sample() api.Named {
	return api.Named{
		Space: "u", Local: "a", At: 5,
		Attrs: []api.Attr{{Name: "x", Value: "1"}, {Name: "y", Value: "2"}},
		Kids: []api.Named{
			{Space: "v", Local: "b", Kids: []api.Named{{Space: "w", Local: "d", Attrs: []api.Attr{{Name: "z", Value: "3"}}, At: 9}}},
			{Local: "c", At: 3},
		},
	}
}

// P3.2: Same; each turn makes one difference.
func TestSame(t *testing.T) {
	if !space.Same(sample(), sample()) || !space.Same(api.Named{}, api.Named{}) {
		t.Error("one is not itself")
	}
	for i, turn := range []func(n *api.Named){
		func(n *api.Named) { n.Space = "" },
		func(n *api.Named) { n.Space = "U" },
		func(n *api.Named) { n.Local = "A" },
		func(n *api.Named) { n.Local = "" },
		func(n *api.Named) { n.Space, n.Local = "", "ua" },
		func(n *api.Named) { n.Space, n.Local = n.Local, n.Space },
		func(n *api.Named) { n.Attrs = nil },
		func(n *api.Named) { n.Attrs = n.Attrs[:1] },
		func(n *api.Named) { n.Attrs = n.Attrs[1:] },
		func(n *api.Named) { slices.Reverse(n.Attrs) },
		func(n *api.Named) { n.Attrs = append(n.Attrs, n.Attrs[1]) },
		func(n *api.Named) { n.Attrs[1].Name = "Y" },
		func(n *api.Named) { n.Attrs[1].Value = "" },
		func(n *api.Named) { n.Attrs[0].Name, n.Attrs[0].Value = "x1", "" },
		func(n *api.Named) { n.Kids = nil },
		func(n *api.Named) { n.Kids = n.Kids[:1] },
		func(n *api.Named) { n.Kids = append(n.Kids, api.Named{}) },
		func(n *api.Named) { slices.Reverse(n.Kids) },
		func(n *api.Named) { n.Kids[1].Space = "u" },
		func(n *api.Named) { n.Kids[1].Local = "b" },
		func(n *api.Named) { n.Kids[1].Attrs = n.Attrs },
		func(n *api.Named) { n.Kids[0].Kids[0].Space = "v" },
		func(n *api.Named) { n.Kids[0].Kids[0].Attrs[0].Value = "4" },
		func(n *api.Named) { n.Kids[1].Kids, n.Kids[0].Kids = n.Kids[0].Kids, nil },
	} {
		a, b := sample(), sample()
		turn(&b)
		if space.Same(a, b) || space.Same(b, a) {
			t.Errorf("turn %d makes no difference", i)
		}
	}
}

// P3.2: At does not count, at no depth. W5: nor whether a list without elements is nil.
func TestSameWhereOnlyAtDiffers(t *testing.T) {
	for i, turn := range []func(n *api.Named){
		func(n *api.Named) { n.At = 0 },
		func(n *api.Named) { n.Kids[0].At = -7 },
		func(n *api.Named) { n.Kids[1].At, n.At = n.At, n.Kids[1].At },
		func(n *api.Named) { n.Kids[0].Kids[0].At++ },
		func(n *api.Named) { n.Kids[1].Attrs, n.Kids[1].Kids = []api.Attr{}, []api.Named{} },
	} {
		a, b := sample(), sample()
		turn(&b)
		if !space.Same(a, b) || !space.Same(b, a) {
			t.Errorf("turn %d makes a difference", i)
		}
	}
	one, _, _ := space.Resolve(parsed(t, "<a xmlns='u'><b/></a>"))
	two, _, _ := space.Resolve(parsed(t, " <p:a xmlns:p='u' > <q:b xmlns:q='u'/></p:a>"))
	if one.At == two.At || !space.Same(one, two) {
		t.Error("one element, written in two ways, is two")
	}
}

// back holds Resolve of Plain against what was made plain.
func back(t *testing.T, n api.Named) {
	t.Helper()
	e := space.Plain(n)
	again, at, err := space.Resolve(e)
	if at != 0 || err != api.OK || !space.Same(n, again) {
		t.Fatalf("%v: %s: %v %d %d", n, xml.Print(e), again, at, err)
	}
	if !xml.Same(space.Plain(again), e) {
		t.Fatalf("%s is another one the second time", xml.Print(e))
	}
}

// P3.3: Resolve of Plain is it, of trees that were resolved and of trees that were made.
func TestResolveOfPlain(t *testing.T) {
	r := rand.New(rand.NewSource(7))
	for range 5000 {
		n, _, err := space.Resolve(rooted(r, 1<<30))
		if err != api.OK {
			t.Fatal(err)
		}
		back(t, n)
		left := 1 + r.Intn(20)
		back(t, made(r, &left))
	}
	back(t, in("u", "a", in("", "b", in("u", "c", in("v", "d"), in("", "e"), in("u", "f")))))
}

// made is a tree of at most left elements in which no attribute has a prefix or is xmlns.
func made(r *rand.Rand, left *int) api.Named {
	*left--
	n := api.Named{Space: pick(r, "", "", "u", "v", "xmlns", " <&>\"' "), Local: pick(r, "a", "b", "xmlns", "xml"), At: r.Intn(100)}
	for range r.Intn(3) {
		n.Attrs = append(n.Attrs, api.Attr{Name: pick(r, "x", "y", "xml", "xmlnsx"), Value: pick(r, "", "u", "p:a")})
	}
	for *left > 0 && r.Intn(4) > 0 {
		n.Kids = append(n.Kids, made(r, left))
	}
	return n
}

// P3.3: by way of a text, too.
func TestResolveOfPlainAsText(t *testing.T) {
	for _, s := range []string{"<a/>", "<p:a xmlns:p='u'><b/><p:c x='1'/></p:a>", "<a xmlns='u'><b xmlns=''><p:c xmlns:p='u'/></b></a>"} {
		n, _, _ := space.Resolve(parsed(t, s))
		again, _, err := space.Resolve(parsed(t, xml.Print(space.Plain(n))))
		if err != api.OK || !space.Same(n, again) {
			t.Errorf("%s: %v, not %v", s, again, n)
		}
	}
}

// roomy is a list with room behind its end, in which something stands.
func roomy[T any](behind T, list ...T) []T {
	return append(slices.Clip(list), behind)[:len(list)]
}

// roomyElem is an element all of whose lists have room.
func roomyElem() api.Elem {
	attrs := func() []api.Attr {
		return roomy(api.Attr{Name: "behind"}, api.Attr{Name: "xmlns", Value: "u"}, api.Attr{Name: "x", Value: "1"}, api.Attr{Name: "xmlns:p", Value: "v"}, api.Attr{Name: "y", Value: "2"})
	}
	kid := api.Elem{Name: "p:b", Attrs: attrs(), Kids: roomy(api.Elem{Name: "behind"}, api.Elem{Name: "c", Attrs: attrs()})}
	return api.Elem{Name: "a", Attrs: attrs(), Kids: roomy(api.Elem{Name: "behind"}, kid, api.Elem{Name: "d", Attrs: attrs()}), At: 4}
}

// roomyNamed is a resolved element all of whose lists have room.
func roomyNamed() api.Named {
	attrs := func() []api.Attr {
		return roomy(api.Attr{Name: "behind"}, api.Attr{Name: "x", Value: "1"}, api.Attr{Name: "y", Value: "2"})
	}
	kid := api.Named{Space: "v", Local: "b", Attrs: attrs(), Kids: roomy(api.Named{Local: "behind"}, api.Named{Space: "u", Local: "c", Attrs: attrs()})}
	return api.Named{Space: "u", Local: "a", Attrs: attrs(), Kids: roomy(api.Named{Local: "behind"}, kid, api.Named{Space: "u", Local: "d", Attrs: attrs()}), At: 4}
}

// wholeElem is a tree with what stands in the room behind the ends of its lists.
func wholeElem(e api.Elem) api.Elem {
	e.Attrs = slices.Clone(e.Attrs[:cap(e.Attrs)])
	e.Kids = slices.Clone(e.Kids[:cap(e.Kids)])
	for i := range e.Kids {
		e.Kids[i] = wholeElem(e.Kids[i])
	}
	return e
}

// wholeNamed is likewise a tree that is resolved.
func wholeNamed(n api.Named) api.Named {
	n.Attrs = slices.Clone(n.Attrs[:cap(n.Attrs)])
	n.Kids = slices.Clone(n.Kids[:cap(n.Kids)])
	for i := range n.Kids {
		n.Kids[i] = wholeNamed(n.Kids[i])
	}
	return n
}

// P3.3: what is handed in is not changed, not even behind the end of its lists.
func TestNothingIsChanged(t *testing.T) {
	e, n := roomyElem(), roomyNamed()
	bad := roomyElem()
	bad.Kids[1].Name = "z:d"
	wantE, wantN, wantBad := wholeElem(e), wholeNamed(n), wholeElem(bad)
	space.Resolve(e)
	space.Resolve(bad)
	space.Plain(n)
	space.Same(n, roomyNamed())
	space.Same(roomyNamed(), n)
	if !reflect.DeepEqual(wholeElem(e), wantE) || !reflect.DeepEqual(wholeNamed(n), wantN) || !reflect.DeepEqual(wholeElem(bad), wantBad) {
		t.Error("something has changed")
	}
}

// spoilElem overwrites all lists of a tree, up to the end of their room, the innermost first.
func spoilElem(e *api.Elem) {
	for i := range e.Kids {
		spoilElem(&e.Kids[i])
	}
	overwrite(e.Attrs, api.Attr{Name: "z:spoiled", Value: "spoiled"})
	overwrite(e.Kids, api.Elem{Name: "z:spoiled"})
}

// spoilNamed does likewise to a tree that is resolved.
func spoilNamed(n *api.Named) {
	for i := range n.Kids {
		spoilNamed(&n.Kids[i])
	}
	overwrite(n.Attrs, api.Attr{Name: "z:spoiled", Value: "spoiled"})
	overwrite(n.Kids, api.Named{Local: "z:spoiled"})
}

// overwrite puts one thing all over a list and the room behind it.
func overwrite[T any](list []T, with T) {
	list = list[:cap(list)]
	for i := range list {
		list[i] = with
	}
}

// P3.3: what is answered stays, whatever becomes of what was handed in, or of another answer.
func TestAnswersAreNewMemory(t *testing.T) {
	e, n := roomyElem(), roomyNamed()
	named, _, _ := space.Resolve(e)
	other, _, _ := space.Resolve(e)
	plain, another := space.Plain(n), space.Plain(n)
	spoilNamed(&other)
	spoilElem(&another)
	if !reflect.DeepEqual(wholeElem(e), wholeElem(roomyElem())) || !reflect.DeepEqual(wholeNamed(n), wholeNamed(roomyNamed())) {
		t.Error("an answer shares memory with what was handed in")
	}
	spoilElem(&e)
	spoilNamed(&n)
	wantNamed, _, _ := asked(roomyElem())
	if !reflect.DeepEqual(named, wantNamed) {
		t.Errorf("Resolve's answer has become %v", named)
	}
	if !xml.Same(plain, space.Plain(roomyNamed())) {
		t.Errorf("Plain's answer has become %s", xml.Print(plain))
	}
}

// W6: no two lists of one answer share any room, though they do where they are handed in.
func TestListsOfOneAnswer(t *testing.T) {
	attrs := []api.Attr{{Name: "x", Value: "1"}, {Name: "y", Value: "2"}, {Name: "w", Value: "3"}}
	elems := []api.Elem{{Name: "c", Attrs: attrs[:1]}, {Name: "c", Attrs: attrs}}
	nameds := []api.Named{{Local: "c", Attrs: attrs[:1]}, {Local: "c", Attrs: attrs}}
	n, _, err := space.Resolve(api.Elem{Name: "a", Attrs: attrs, Kids: []api.Elem{{Name: "b", Attrs: attrs, Kids: elems}, {Name: "b", Attrs: attrs, Kids: elems}}})
	if err != api.OK {
		t.Fatal(err)
	}
	e := space.Plain(api.Named{Local: "a", Attrs: attrs, Kids: []api.Named{{Local: "b", Attrs: attrs, Kids: nameds}, {Local: "b", Attrs: attrs, Kids: nameds}}})
	overwrite(n.Attrs, api.Attr{})
	overwrite(e.Attrs, api.Attr{})
	spoilNamed(&n.Kids[0])
	spoilElem(&e.Kids[0])
	if got := xml.Print(e.Kids[1]); got != `<b x="1" y="2" w="3"><c x="1"/><c x="1" y="2" w="3"/></b>` {
		t.Error("Plain:", got)
	}
	if got := xml.Print(space.Plain(n.Kids[1])); got != `<b x="1" y="2" w="3"><c x="1"/><c x="1" y="2" w="3"/></b>` {
		t.Error("Resolve:", got)
	}
}

// W6: the texts that are answered are no pieces of those that came in.
func TestAnswersHaveNewTexts(t *testing.T) {
	s := strings.Clone("p:locals/space/names/value/")
	begin := uintptr(unsafe.Pointer(unsafe.StringData(s)))
	check := func(parts ...string) {
		t.Helper()
		for _, part := range parts {
			if at := uintptr(unsafe.Pointer(unsafe.StringData(part))); begin <= at && at < begin+uintptr(len(s)) {
				t.Errorf("%q is a piece of what came in", part)
			}
		}
	}
	n, _, err := space.Resolve(api.Elem{Name: s[:8], Attrs: []api.Attr{{Name: "xmlns:p", Value: s[9:14]}, {Name: s[15:20], Value: s[21:26]}}})
	if err != api.OK || n.Local != "locals" || n.Space != "space" {
		t.Fatal(n, err)
	}
	check(n.Local, n.Space, n.Attrs[0].Name, n.Attrs[0].Value)
	e := space.Plain(api.Named{Space: s[9:14], Local: s[2:8], Attrs: []api.Attr{{Name: s[15:20], Value: s[21:26]}}})
	check(e.Name, e.Attrs[0].Value, e.Attrs[1].Name, e.Attrs[1].Value)
}

// W2, W7: a second call answers the same, and the first answer stays.
func TestCallsKeepNothing(t *testing.T) {
	first, _, _ := space.Resolve(parsed(t, "<p:a xmlns:p='u' xmlns='v'><b/></p:a>"))
	if _, at, err := space.Resolve(api.Elem{Name: "p:a", At: 2}); at != 2 || err != api.ErrSpace {
		t.Error("a prefix is known from an earlier call", at, err)
	}
	if n, _, err := space.Resolve(api.Elem{Name: "a"}); n.Space != "" || err != api.OK {
		t.Error("a space is kept from an earlier call", n, err)
	}
	if told(first) != "{u}a {v}b" {
		t.Error(told(first))
	}
}

// W1: deep trees, and such as nothing is said of, neither panic nor hang.
func TestPlainAndSameOfAnyTree(t *testing.T) {
	odd := api.Named{Space: "\xff", Local: "z:\x00", Attrs: []api.Attr{{}, {Name: "xmlns", Value: "v"}, {Name: "z:x"}}, Kids: []api.Named{{}, {Local: strings.Repeat("x", 1<<20)}}, At: -1 << 63}
	if e := space.Plain(odd); len(e.Attrs) != 4 || !space.Same(odd, odd) || space.Same(odd, api.Named{}) {
		t.Error("an odd tree")
	}
	deep, other := api.Named{Local: "a"}, api.Named{Local: "b"}
	r := rand.New(rand.NewSource(8))
	for range 1<<16 - 1 {
		s := pick(r, "", "u", "v")
		deep, other = in(s, "a", deep), in(s, "a", other)
	}
	if !space.Same(deep, deep) || space.Same(deep, other) {
		t.Error("a deep tree")
	}
	if again, _, err := space.Resolve(space.Plain(deep)); err != api.OK || !space.Same(deep, again) {
		t.Error("a deep tree is another one", err)
	}
}
