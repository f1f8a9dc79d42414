package xml_test

import (
	"math/rand"
	"reflect"
	"slices"
	"strconv"
	"strings"
	"testing"
	"unsafe"

	"sentry/api"
	"sentry/xml"
)

// good are texts that are elements, with every part of the grammar.
var good = []string{
	"<a/>",
	"<a></a>",
	" \t\r\n<a\n\t\r /> \t\r\n",
	"<a x='1'><b/></a>",
	"<p:a p:x=\"1\" x='2' >\n<q:b></q:b >\t<!-- r --><c y='' /></p:a\r\n>",
	"<!-- - -><&a='--><!----><!--x-y-z--><a/><!-- </a> \u00e9\U0001f600 --> <!---->",
	"<a a='\"' b=\"'\" c='' d=\"\" e='a>b/=' f=' \t\n\r ' g='&amp;&lt;&gt;&quot;&apos;&#65;&#x42;' h='\u00e9\U0001f600'/>",
	"<_-.9:A.b-C_0 xmlns:x='u' xmlns='v'><_/><_:_></_:_></_-.9:A.b-C_0>",
	"<abcdefghijkl:ABCDEFGHIJKL abcdefghijkl:ABCDEFGHIJKL=''/>",
	"<a><b><c><d/></c></b><b/><!-- --><b> </b><a><a/></a></a>",
}

// hold holds a text against the oracle, and what must be of every answer.
func hold(t *testing.T, s string) {
	t.Helper()
	e, n, err := xml.Parse(s)
	events, place, want := read(s)
	if n != place || err != want {
		t.Fatalf("Parse(%q): place %d, error %d; not %d, %d", s, n, err, place, want)
	}
	if err != api.OK {
		if !reflect.DeepEqual(e, api.Elem{}) {
			t.Fatalf("Parse(%q): an element beside an error: %v", s, e)
		}
		return
	}
	if got := eventsOf(e); !slices.Equal(got, events) {
		t.Fatalf("Parse(%q): %q, not %q", s, got, events)
	}
}

// P2.1: the element, with the places of all elements, and the text's length.
func TestParseTree(t *testing.T) {
	s := "<!-- 1 --> <k:case id=\"a&amp;b\" n='\"'>\n <item/><!----><item at='&#x41;&#66;'>\t<q/> </item >\r</k:case> <!-- 2 -->\n"
	want := api.Elem{
		Name:  "k:case",
		Attrs: []api.Attr{{Name: "id", Value: "a&b"}, {Name: "n", Value: `"`}},
		Kids: []api.Elem{
			{Name: "item", At: strings.Index(s, "<item/>")},
			{Name: "item", At: strings.Index(s, "<item at"), Attrs: []api.Attr{{Name: "at", Value: "AB"}}, Kids: []api.Elem{{Name: "q", At: strings.Index(s, "<q/>")}}},
		},
		At: 11,
	}
	e, n, err := xml.Parse(s)
	if err != api.OK || n != len(s) || !reflect.DeepEqual(e, want) {
		t.Errorf("%v %d %d", e, n, err)
	}
	// The example of the chapter.
	if e, n, err := xml.Parse("<a x='1'><b/></a>"); err != api.OK || n != 17 || len(e.Kids) != 1 || e.Kids[0].At != 9 {
		t.Errorf("%v %d %d", e, n, err)
	}
}

func TestParseGood(t *testing.T) {
	for _, s := range good {
		if _, n, err := xml.Parse(s); n != len(s) || err != api.OK {
			t.Errorf("Parse(%q): %d %d", s, n, err)
		}
		hold(t, s)
	}
}

// P2.1: wrong texts, by what is wrong in them; each with its place.
func TestParseWrong(t *testing.T) {
	long := strings.Repeat("n", api.MaxName+1)
	for _, x := range []struct {
		s  string
		at int
	}{
		// Nothing, or something else, where the element must stand.
		{"", 0}, {" \n", 2}, {"a", 0}, {" \xff", 1}, {"\ufeff<a/>", 0}, {">", 0}, {"&lt;", 0}, {"\v<a/>", 0}, {"\u00a0<a/>", 0}, {"\x00", 0},
		// The text ends too early.
		{"<", 1}, {"<a", 2}, {"<a ", 3}, {"<a  ", 4}, {"<a x", 4}, {"<a x=", 5}, {"<a x='", 5}, {"<a x='1", 5}, {"<a x='1'", 8}, {"<a x='1' ", 9}, {"<a/", 2}, {"<a>", 3}, {"<a> ", 4}, {"<a><", 4}, {"<a><b/>", 7}, {"<a></", 5}, {"<a></a", 6}, {"<a></a ", 7}, {"<!", 1}, {"<!-", 1}, {"<!--", 0}, {"<!-- -", 0}, {"<!-- --", 0}, {" <!---", 1}, {"<a/> <!--", 5}, {"<a><!-- ", 3},
		// A `/` without `>`.
		{"<a/ >", 2}, {"<a / >", 3}, {"<a//>", 2}, {"<a x=''/", 7}, {"<a x='' /x>", 8}, {"<a /", 3}, {"<a/<", 2},
		// Something behind the outermost element.
		{"<a/>a", 4}, {"<a/> <b/>", 5}, {"<a/></a>", 4}, {"<a></a></a>", 7}, {"<a/><!- -->", 4}, {"<a/><", 4}, {"<a/>&#32;", 4}, {"<a/>\x00", 4},
		// What begins neither a remark nor an end tag begins an element.
		{"</a>", 1}, {"<!a>", 1}, {"<!-a-><a/>", 1}, {"<?a?>", 1}, {"<![CDATA[]]>", 1}, {"<!DOCTYPE a><a/>", 1}, {"<a><!b></a>", 4}, {"<a><?b?></a>", 4}, {"<a>< /a>", 4}, {"<<a/>", 1},
		// Names.
		{"< a/>", 1}, {"<>", 1}, {"</>", 1}, {"<1/>", 1}, {"<-a/>", 1}, {"<.a/>", 1}, {"<:a/>", 1}, {"<a:/>", 1}, {"<a::b/>", 1}, {"<a:b:c/>", 1}, {"<a:1/>", 1}, {"<" + long + "/>", 1}, {"<a:" + long + "/>", 1}, {"<" + long + ":a/>", 1}, {"<a\u00e9/>", 2}, {"<\u00e9/>", 1}, {"<a\x00/>", 2}, {"<a&/>", 2}, {"<a=''/>", 2}, {"<a'/>", 2},
		// Texts between elements.
		{"<a>x</a>", 3}, {"<a> &amp;</a>", 4}, {"<a><b/>x</a>", 7}, {"<a>></a>", 3}, {"<a>/></a>", 3}, {"<a>\x00</a>", 3}, {"<a><b/>\u00a0</a>", 7},
		// End tags.
		{"<a></b>", 3}, {"<a></b", 3}, {"<a></A>", 3}, {"<a></aa>", 3}, {"<aa></a>", 4}, {"<a:b></b>", 5}, {"<b></a:b>", 3}, {"<a><b></a></b>", 6}, {"<a></ a>", 5}, {"<a></>", 5}, {"<a></1>", 5}, {"<a></a:>", 5}, {"<a></" + long + ">", 5}, {"<a></a x=''>", 7}, {"<a></ax>", 3}, {"<a></a/>", 6}, {"<a></a", 6}, {"<a></a<", 6},
		// Attributes: their names.
		{"<a 1=''/>", 3}, {"<a =''/>", 3}, {"<a ='/>", 3}, {"<a :x=''/>", 3}, {"<a x:=''/>", 3}, {"<a x:y:z=''/>", 3}, {"<a " + long + "=''/>", 3}, {"<a '1'/>", 3}, {"<a \u00e9=''/>", 3}, {"<a <b/>/>", 3}, {"<a !/>", 3},
		// Blanks that are missing, or too many.
		{"<a x=''y=''/>", 7}, {"<a x=\"\"y=\"\"/>", 7}, {"<a x=''''/>", 7}, {"<a x =''/>", 4}, {"<a x= ''/>", 5}, {"<a x\n=''/>", 4}, {"<a x=\t''/>", 5}, {"<a\vx=''/>", 2}, {"<a\fx=''/>", 2}, {"<a x=''\u00a0y=''/>", 7},
		// Attributes: `=` and values.
		{"<a x/>", 4}, {"<a x>", 4}, {"<a x y=''/>", 4}, {"<a x''/>", 4}, {"<a x==''/>", 5}, {"<a x=1/>", 5}, {"<a x=/>", 5}, {"<a x=>", 5}, {"<a x=&quot;1&quot;/>", 5}, {"<a x=`1`/>", 5}, {"<a x='1\"/>", 5}, {"<a x=\"1'/>", 5}, {"<a x='<'/>", 5}, {"<a x=\"<\"/>", 5}, {"<a x='a<b'/>", 5}, {"<a x='1' y='<b'/>", 11},
		// Values that do not Unescape.
		{"<a x='&'/>", 5}, {"<a x='&;'/>", 5}, {"<a x='&amp'/>", 5}, {"<a x='&x;'/>", 5}, {"<a x='& amp;'/>", 5}, {"<a x='&#;'/>", 5}, {"<a x='&#x;'/>", 5}, {"<a x='&#0;'/>", 5}, {"<a x='&#xd800;'/>", 5}, {"<a x='&#x110000;'/>", 5}, {"<a x='&#12345678;'/>", 5}, {"<a x='ab&'c;'/>", 5}, {"<a x='\x00'/>", 5}, {"<a x='\x1f'/>", 5}, {"<a x='\xff'/>", 5}, {"<a x='\xc3'/>", 5}, {"<a x='\xed\xa0\x80'/>", 5}, {"<a x='\uffff'/>", 5}, {"<a x='1' y='ok' z=\"&nbsp;\"/>", 18},
		// Names that stand twice, ahead of what follows them.
		{"<a x='' x=''/>", 8}, {"<a x='1' y='2' x='3'/>", 15}, {"<a x='' x/>", 8}, {"<a x='' x", 8}, {"<a x='' x='&'/>", 8}, {"<a p:x='' p:x=''/>", 10}, {"<a><b x='' x=''/></a>", 11}, {"<a xmlns='' xmlns=''/>", 12},
		// Remarks.
		{"<!-- -- --><a/>", 0}, {"<!----", 0}, {"<!-----><a/>", 0}, {"<!-- ---><a/>", 0}, {"<!--><a/>", 0}, {"<!---><a/>", 0}, {"<!-- > <a/>", 0}, {"<!-- -> <a/>", 0}, {"<!-- -- > <a/> -->", 0}, {"<a><!--a--b--></a>", 3}, {"<a/> <!--a----b-->", 5}, {"<!-- \x00 --><a/>", 0}, {"<!-- \xff --><a/>", 0}, {"<!-- \xed\xbf\xbf --><a/>", 0}, {"<a><!-- \ufffe --></a>", 3}, {"<!----><!-- -- --><a/>", 7}, {"<!-- <!-- --> --><a/>", 0}, {"<!-- ok -->--><a/>", 11}, {"<a <!-- --> />", 3}, {"<a/ <!-- -->>", 2},
	} {
		e, n, err := xml.Parse(x.s)
		if n != x.at || err != api.ErrForm || !reflect.DeepEqual(e, api.Elem{}) {
			t.Errorf("Parse(%q): %v, place %d, error %d; not %d, %d", x.s, e, n, err, x.at, api.ErrForm)
		}
		hold(t, x.s)
	}
}

// P2.1: a name that stands in another element does not stand twice.
func TestParseNamesInOtherElements(t *testing.T) {
	for _, s := range []string{"<a x=''><b x=''/><b x=''/></a>", "<x x='' X='' x:x='' x:y='' y:x=''/>"} {
		if _, n, err := xml.Parse(s); n != len(s) || err != api.OK {
			t.Errorf("Parse(%q): %d %d", s, n, err)
		}
	}
}

// P2.1: each good text cut short at each byte.
func TestParseCutTexts(t *testing.T) {
	for _, s := range good {
		for i := range len(s) + 1 {
			hold(t, s[:i])
			hold(t, s[i:])
		}
	}
}

// P2.1: each byte put into, and in place of, each byte of the good texts.
func TestParseEveryByteEverywhere(t *testing.T) {
	for _, s := range good {
		for i := range len(s) + 1 {
			for c := range 256 {
				hold(t, s[:i]+string([]byte{byte(c)})+s[i:])
				if i < len(s) {
					hold(t, s[:i]+string([]byte{byte(c)})+s[i+1:])
				}
			}
			if i < len(s) {
				hold(t, s[:i]+s[i+1:])
				hold(t, s[:i]+s[i:i+1]+s[i:])
			}
		}
	}
}

// P2.1: all short texts of a few tokens.
func TestParseAllShortTexts(t *testing.T) {
	tokens := []string{"<", "</", "/", ">", "a", "b", " ", "=", "''", "'", "\"", "!", "-", "<!--", "-->", "&", ":", "1"}
	var grow func(s string, left int)
	grow = func(s string, left int) {
		hold(t, s)
		if left == 0 {
			return
		}
		for _, x := range tokens {
			grow(s+x, left-1)
		}
	}
	grow("", 4)
	for _, head := range []string{"<a", "<a x=''", "<a><b", "<a></", "<a/>", "<!--"} {
		grow(head, 3)
	}
}

// P2.1: long texts, of pieces that mostly fit, so that they are met deep inside.
func TestParseOfPieces(t *testing.T) {
	pieces := []string{"<a>", "<b>", "</a>", "</b>", "</a >", "<a/>", "<b x='1'/>", "<a x=\"&lt;\" y=''>", "<!-- r -->", "<!---->", " ", "\n", "<c p:x='1' ", "z=''", "/>", ">", "</", "<", "<!--", "--", "-->", "'", "x", "&#9;", "\xff", "\x00"}
	r := rand.New(rand.NewSource(2))
	for range 60000 {
		var b strings.Builder
		for range r.Intn(16) {
			kind := r.Intn(len(pieces))
			if r.Intn(8) > 0 {
				kind = r.Intn(12)
			}
			b.WriteString(pieces[kind])
		}
		hold(t, b.String())
	}
}

// P2.1, MaxDoc: a text of that many bytes is read, one more is refused ahead of all else.
func TestParseLongTexts(t *testing.T) {
	fill := func(head, tail string, n int) string {
		return head + strings.Repeat(" ", n-len(head)-len(tail)) + tail
	}
	for _, s := range []string{fill("<a/>", "", api.MaxDoc), fill("", "<a/>", api.MaxDoc), fill("<!--", "--><a/>", api.MaxDoc), fill("<a", "/>", api.MaxDoc), fill("<a>", "</a>", api.MaxDoc)} {
		if e, n, err := xml.Parse(s); n != api.MaxDoc || err != api.OK || e.Name != "a" {
			t.Errorf("%d %d", n, err)
		}
		if e, n, err := xml.Parse(s + " "); n != 0 || err != api.ErrLong || !reflect.DeepEqual(e, api.Elem{}) {
			t.Errorf("one more: %v %d %d", e, n, err)
		}
	}
	for _, s := range []string{"x", "<", "<1", "\xff", "<a/>", "<a x='", "<!--", "<a>", "<a></", ":", "-", "&"} {
		if _, n, err := xml.Parse(strings.Repeat(s, api.MaxDoc)); len(s) > 1 && (n != 0 || err != api.ErrLong) {
			t.Errorf("%q: %d %d", s, n, err)
		}
		if _, n, err := xml.Parse(strings.Repeat(s, 1<<22)); n != 0 || err != api.ErrLong {
			t.Errorf("%q: %d %d", s, n, err)
		}
		hold(t, strings.Repeat(s, api.MaxDoc)[:api.MaxDoc])
	}
	if _, n, err := xml.Parse(strings.Repeat(" ", api.MaxDoc)); n != api.MaxDoc || err != api.ErrForm {
		t.Errorf("%d %d", n, err)
	}
}

// P2.1, MaxDeep: an element stands in at most MaxDeep - 1 others.
func TestParseDeep(t *testing.T) {
	nest := func(n int, inner string) string {
		return strings.Repeat("<a>", n) + inner + strings.Repeat("</a>", n)
	}
	for _, s := range []string{nest(api.MaxDeep, ""), nest(api.MaxDeep, " <!-- <a> --> "), nest(api.MaxDeep-1, "<b/>"), nest(api.MaxDeep-1, "<b></b><b/>")} {
		if _, n, err := xml.Parse(s); n != len(s) || err != api.OK {
			t.Errorf("%q: %d %d", s, n, err)
		}
	}
	for _, inner := range []string{"<b/>", "<b></b>", "<", "<1", "< ", "<!", "<!-", "<?", "<a x='&'/>"} {
		if e, n, err := xml.Parse(nest(api.MaxDeep, inner)); n != 3*api.MaxDeep || err != api.ErrFull || !reflect.DeepEqual(e, api.Elem{}) {
			t.Errorf("%q: %d %d", inner, n, err)
		}
	}
	// What is wrong ahead of it, and what is no element, is told as such.
	for _, x := range []struct {
		inner string
		at    int
	}{{"x<b/>", 0}, {"<!-- --", 0}, {"</b>", 0}, {"</1>", 2}, {"<!----><!-- -- -->", 7}, {"", 0}} {
		s := strings.Repeat("<a>", api.MaxDeep) + x.inner
		if _, n, err := xml.Parse(s); n != 3*api.MaxDeep+x.at || err != api.ErrForm {
			t.Errorf("%q: %d %d", x.inner, n, err)
		}
	}
	s := nest(api.MaxDeep, " <!-- --> <b/>")
	if _, n, err := xml.Parse(s); n != strings.Index(s, "<b/>") || err != api.ErrFull {
		t.Errorf("%d %d", n, err)
	}
	// As deep again, once what stood there has ended.
	s = "<r>" + strings.Repeat(nest(api.MaxDeep-1, ""), 3) + "</r>"
	if _, n, err := xml.Parse(s); n != len(s) || err != api.OK {
		t.Errorf("%d %d", n, err)
	}
}

// P2.1, MaxElems: so many elements, wherever they stand.
func TestParseManyElements(t *testing.T) {
	many := "<a>" + strings.Repeat("<b><c/></b>", (api.MaxElems-2)/2)
	for _, x := range []struct {
		more string
		at   int
		err  api.Errno
	}{
		{"<b/></a>", 8, api.OK}, {"<b></b></a><!-- <c/> -->", 24, api.OK}, {"<b/> <!----></a>", 16, api.OK},
		{"<b/><b/></a>", 4, api.ErrFull}, {"<b><b/></b></a>", 3, api.ErrFull}, {"<b/> <1", 5, api.ErrFull}, {"<b/><!-- --><", 12, api.ErrFull}, {"<b/><!a>", 4, api.ErrFull},
		{"<b/></b>", 4, api.ErrForm}, {"<b/></a><b/>", 8, api.ErrForm}, {"<b/>x<b/>", 4, api.ErrForm}, {"<b/><!--<b/>", 4, api.ErrForm},
	} {
		if _, n, err := xml.Parse(many + x.more); n != len(many)+x.at || err != x.err {
			t.Errorf("%q: %d %d", x.more, n-len(many), err)
		}
		hold(t, many+x.more)
	}
	if e, _, err := xml.Parse(many + "<b/></a>"); err != api.OK || countElems(e) != api.MaxElems {
		t.Errorf("%d elements, error %d", countElems(e), err)
	}
}

func countElems(e api.Elem) int {
	n := 1
	for _, k := range e.Kids {
		n += countElems(k)
	}
	return n
}

// P2.1, MaxAttrs: so many attributes of one element.
func TestParseManyAttributes(t *testing.T) {
	tag := "<a"
	for i := range api.MaxAttrs {
		tag += " x" + strconv.Itoa(i) + "='" + strconv.Itoa(i) + "'"
	}
	for _, x := range []struct {
		more string
		at   int
		err  api.Errno
	}{
		{"/>", 2, api.OK}, {" />", 3, api.OK}, {" \n>\t</a>", 8, api.OK}, {">" + tag + "/></a>", 7 + len(tag), api.OK},
		{" y=''/>", 1, api.ErrFull}, {"  x0=''/>", 2, api.ErrFull}, {" 1", 1, api.ErrFull}, {"\t=", 1, api.ErrFull}, {" <", 1, api.ErrFull}, {" '", 1, api.ErrFull}, {" \xff", 1, api.ErrFull}, {" a:", 1, api.ErrFull},
		{"y=''/>", 0, api.ErrForm}, {"x0=''/>", 0, api.ErrForm}, {"", 0, api.ErrForm}, {" ", 1, api.ErrForm}, {" /", 1, api.ErrForm}, {" / y=''", 1, api.ErrForm}, {"/ y=''", 0, api.ErrForm}, {"'", 0, api.ErrForm},
	} {
		e, n, err := xml.Parse(tag + x.more)
		if n != len(tag)+x.at || err != x.err {
			t.Errorf("%q: %d %d", x.more, n-len(tag), err)
		}
		if err == api.OK && len(e.Attrs) != api.MaxAttrs {
			t.Errorf("%q: %d attributes", x.more, len(e.Attrs))
		}
		hold(t, tag+x.more)
	}
	// In its own element alone does an attribute count.
	s := tag + ">" + strings.Repeat(tag+"/>", 3) + "</a>"
	if _, n, err := xml.Parse(s); n != len(s) || err != api.OK {
		t.Errorf("%d %d", n, err)
	}
}

// P2.1, MaxValue: what a value stands for has at most so many bytes.
func TestParseLongValues(t *testing.T) {
	for _, x := range []struct {
		written string
		size    int
	}{{"v", 1}, {"&amp;", 1}, {"&#x0000041;", 1}, {"\u00e9", 2}, {"&#233;", 2}, {"\U0001f600", 4}, {"&#x1f600;", 4}, {"\n", 1}} {
		fits := strings.Repeat(x.written, api.MaxValue/x.size)
		for _, quote := range []string{"'", `"`} {
			s := "<a x=" + quote + fits + quote + "/>"
			if e, n, err := xml.Parse(s); n != len(s) || err != api.OK || len(e.Attrs[0].Value) != api.MaxValue {
				t.Errorf("%q: %d %d", s, n, err)
			}
			hold(t, s)
			for _, more := range []string{"v", "&lt;", "\u00e9", x.written} {
				s := "<a x=" + quote + fits + more + quote + "/>"
				if _, n, err := xml.Parse(s); n != 5 || err != api.ErrForm {
					t.Errorf("%q: %d %d", s, n, err)
				}
				hold(t, s)
			}
		}
	}
}

// P2.1: names up to MaxName bytes, on each side of the colon.
func TestParseLongNames(t *testing.T) {
	for n := range 2*api.MaxName + 4 {
		long := strings.Repeat("n", n)
		for _, q := range []string{long, long + ":a", "a:" + long, long + ":" + long} {
			for _, s := range []string{"<" + q + "/>", "<" + q + "></" + q + ">", "<a " + q + "=''/>", "<a></" + q + ">"} {
				hold(t, s)
			}
		}
	}
}

// W6, P2.3: what is answered is new memory, spare room too.
func TestParseNewMemory(t *testing.T) {
	s := "<a x='1' y='2'><b z='3'><c/><c/></b><b z='3'><c/></b><b/></a>"
	first, _, _ := xml.Parse(s)
	second, _, _ := xml.Parse(s)
	spoil(&first)
	third, n, err := xml.Parse(s)
	if n != len(s) || err != api.OK || !reflect.DeepEqual(second, third) {
		t.Error("an answer shares memory with another one")
	}
	// Each list has room of its own: what is put behind one shows in none.
	e, _, _ := xml.Parse(s)
	for _, list := range kidsOf(&e) {
		_ = append(*list, api.Elem{Name: "spoiled"}, api.Elem{Name: "spoiled"})
	}
	for _, list := range attrsOf(&e) {
		_ = append(*list, api.Attr{Name: "spoiled"}, api.Attr{Name: "spoiled"})
	}
	if !reflect.DeepEqual(e, third) {
		t.Error("lists of one answer share memory")
	}
}

// W6: the texts that are answered are no pieces of the one that came in.
func TestParseNewTexts(t *testing.T) {
	s := strings.Clone("<aa xx='1111' p:y=\"2222\"><bbb zz='3333'></bbb></aa>")
	begin := uintptr(unsafe.Pointer(unsafe.StringData(s)))
	fresh := func(part string) bool {
		at := uintptr(unsafe.Pointer(unsafe.StringData(part)))
		return at < begin || at >= begin+uintptr(len(s))
	}
	e, _, _ := xml.Parse(s)
	for _, x := range []string{e.Name, e.Attrs[0].Name, e.Attrs[0].Value, e.Attrs[1].Name, e.Attrs[1].Value, e.Kids[0].Name, e.Kids[0].Attrs[0].Value} {
		if !fresh(x) {
			t.Errorf("%q is a piece of the text", x)
		}
	}
}

// spoil overwrites all that an element has, up to the end of the room of its lists.
func spoil(e *api.Elem) {
	for _, list := range kidsOf(e) {
		whole := (*list)[:cap(*list)]
		for i := range whole {
			whole[i].Name, whole[i].At = "spoiled", -1
		}
	}
	for _, list := range attrsOf(e) {
		whole := (*list)[:cap(*list)]
		for i := range whole {
			whole[i] = api.Attr{Name: "spoiled", Value: "spoiled"}
		}
	}
}

func kidsOf(e *api.Elem) []*[]api.Elem {
	out := []*[]api.Elem{&e.Kids}
	for i := range e.Kids {
		out = append(out, kidsOf(&e.Kids[i])...)
	}
	return out
}

func attrsOf(e *api.Elem) []*[]api.Attr {
	out := []*[]api.Attr{&e.Attrs}
	for i := range e.Kids {
		out = append(out, attrsOf(&e.Kids[i])...)
	}
	return out
}

// FuzzParse holds any text against the oracle, and each element against its own text.
func FuzzParse(f *testing.F) {
	for _, s := range good {
		f.Add(s)
	}
	f.Fuzz(func(t *testing.T, s string) {
		hold(t, s)
		e, _, err := xml.Parse(s)
		if err != api.OK {
			return
		}
		p := xml.Print(e)
		if len(p) > api.MaxDoc {
			return
		}
		again, n, err := xml.Parse(p)
		if n != len(p) || err != api.OK || !xml.Same(e, again) {
			t.Fatalf("%q: %q: %d %d", s, p, n, err)
		}
	})
}
