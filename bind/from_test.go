package bind_test

import (
	"math/rand"
	"reflect"
	"strings"
	"testing"

	"sentry/api"
	"sentry/bind"
	"sentry/model"
	"sentry/space"
	"sentry/xml"
)

// resolved is a text as an element.
func resolved(t *testing.T, s string) api.Named {
	t.Helper()
	e, at, err := xml.Parse(s)
	if err != api.OK {
		t.Fatalf("%s: place %d, error %d", s, at, err)
	}
	n, at, err := space.Resolve(e)
	if err != api.OK {
		t.Fatalf("%s: place %d, error %d", s, at, err)
	}
	return n
}

// hold holds From against the oracle.
func hold(t *testing.T, n api.Named) api.Errno {
	t.Helper()
	m, at, err := bind.From(n)
	wantM, wantAt, wantErr := asked(n)
	if !model.Same(m, wantM) || at != wantAt || err != wantErr {
		t.Fatalf("%s: %v, place %d, error %d; not %v, %d, %d", xml.Print(space.Plain(n)), m, at, err, wantM, wantAt, wantErr)
	}
	return err
}

// in is a case whose plan has the Kids s; its files are f and g.
func in(s string) string {
	return "<case xmlns='urn:sentry:case'><file id='f'/><file id='g'/><stage id='plan'>" + s + "</stage></case>"
}

// with is the model of in, with items behind the plan.
func with(items ...api.Item) api.Model {
	return api.Model{Files: []string{"f", "g"}, Items: append([]api.Item{{ID: "plan", Kind: api.Stage}}, items...)}
}

// on and when are rows of one sentry.
func on(row ...api.On) []api.Sentry     { return []api.Sentry{{On: row}} }
func when(row ...api.Cond) []api.Sentry { return []api.Sentry{{If: row}} }

// P5.1: texts and their models. Load tells how long the text is, From nought.
func TestOrdinary(t *testing.T) {
	for _, x := range []struct {
		s    string
		want api.Model
	}{
		{`<case xmlns="urn:sentry:case"><stage id="a"/></case>`, api.Model{Items: []api.Item{{ID: "a", Kind: api.Stage}}}},
		{`<case xmlns="urn:sentry:case"><file id="z"/><file id="b"/><stage id="a"/></case>`, api.Model{Files: []string{"z", "b"}, Items: []api.Item{{ID: "a", Kind: api.Stage}}}},
		// Each kind of item.
		{in("<stage id='a'/>"), with(api.Item{ID: "a", Kind: api.Stage, Parent: "plan"})},
		{in("<task id='a'/>"), with(api.Item{ID: "a", Kind: api.Task, Parent: "plan"})},
		{in("<milestone id='a'/>"), with(api.Item{ID: "a", Kind: api.Milestone, Parent: "plan"})},
		{in("<listener id='a'/>"), with(api.Item{ID: "a", Kind: api.Listener, Parent: "plan"})},
		{in("<timer id='a' ticks='7'/>"), with(api.Item{ID: "a", Kind: api.Timer, Parent: "plan", Ticks: 7})},
		// Items as they stand, each with what it stands in.
		{in("<task id='c'/><stage id='b'><stage id='a'><task id='z'/></stage><task id='y'/></stage><stage id='d'/><task id='x'/>"), with(
			api.Item{ID: "c", Kind: api.Task, Parent: "plan"}, api.Item{ID: "b", Kind: api.Stage, Parent: "plan"}, api.Item{ID: "a", Kind: api.Stage, Parent: "b"}, api.Item{ID: "z", Kind: api.Task, Parent: "a"},
			api.Item{ID: "y", Kind: api.Task, Parent: "b"}, api.Item{ID: "d", Kind: api.Stage, Parent: "plan"}, api.Item{ID: "x", Kind: api.Task, Parent: "plan"})},
		// Entry and exit; those of one that has items; several; a sentry with all there may be.
		{in("<task id='a'><entry><on item='plan' event='start'/></entry></task>"), with(api.Item{ID: "a", Kind: api.Task, Parent: "plan", Entry: on(api.On{Item: "plan", Event: api.Start})})},
		{in("<task id='a'><exit><on item='plan' event='start'/></exit></task>"), with(api.Item{ID: "a", Kind: api.Task, Parent: "plan", Exit: on(api.On{Item: "plan", Event: api.Start})})},
		{in("<stage id='a'><entry><if file='g' op='eq' n='1'/></entry><exit><on item='b' event='exit'/></exit><task id='b'><exit><if file='f' op='eq' n='2'/></exit></task></stage>"), with(
			api.Item{ID: "a", Kind: api.Stage, Parent: "plan", Entry: when(api.Cond{File: "g", Op: "=", N: 1}), Exit: on(api.On{Item: "b", Event: api.Exit})},
			api.Item{ID: "b", Kind: api.Task, Parent: "a", Exit: when(api.Cond{File: "f", Op: "=", N: 2})})},
		{in("<milestone id='a'><entry><if file='f' op='eq' n='1'/></entry><entry><if file='f' op='eq' n='2'/></entry><exit><if file='f' op='eq' n='3'/></exit><exit><on item='a' event='occur'/><on item='plan' event='complete'/><if file='g' op='eq' n='4'/><if file='f' op='eq' n='5'/></exit></milestone>"), with(
			api.Item{ID: "a", Kind: api.Milestone, Parent: "plan",
				Entry: append(when(api.Cond{File: "f", Op: "=", N: 1}), when(api.Cond{File: "f", Op: "=", N: 2})...),
				Exit: append(when(api.Cond{File: "f", Op: "=", N: 3}), api.Sentry{
					On: []api.On{{Item: "a", Event: api.Occur}, {Item: "plan", Event: api.Complete}}, If: []api.Cond{{File: "g", Op: "=", N: 4}, {File: "f", Op: "=", N: 5}}})})},
		// What is written is what is meant by it.
		{in("<task id='&#97;&#x2e;_-1' required='&#116;rue'/>"), with(api.Item{ID: "a._-1", Kind: api.Task, Parent: "plan", Required: true})},
	} {
		m, at, err := bind.Load(x.s)
		if !model.Same(m, x.want) || at != len(x.s) || err != api.OK {
			t.Errorf("%s: %v, %d, error %d; not %v", x.s, m, at, err, x.want)
		}
		m, at, err = bind.From(resolved(t, x.s))
		if !model.Same(m, x.want) || at != 0 || err != api.OK {
			t.Errorf("%s: %v, %d, error %d; not %v", x.s, m, at, err, x.want)
		}
		hold(t, resolved(t, x.s))
	}
}

// P5.1: on with each event, if with each op.
func TestEventsAndOps(t *testing.T) {
	for word, event := range map[string]int{"create": api.Create, "start": api.Start, "complete": api.Complete, "occur": api.Occur, "exit": api.Exit} {
		item := "t"
		if event == api.Occur {
			item = "l"
		}
		m, _, err := bind.Load(in("<task id='t'><exit><on event='" + word + "' item='" + item + "'/></exit></task><listener id='l'/>"))
		if err != api.OK || !model.SameSentries(m.Items[1].Exit, on(api.On{Item: item, Event: event})) {
			t.Errorf("%s: %v, error %d", word, m, err)
		}
	}
	for word, op := range map[string]string{"lt": "<", "le": "<=", "eq": "=", "ne": "!=", "ge": ">=", "gt": ">"} {
		m, _, err := bind.Load(in("<task id='t'><entry><if n='-3' op='" + word + "' file='g'/></entry></task>"))
		if err != api.OK || !model.SameSentries(m.Items[1].Entry, when(api.Cond{File: "g", Op: op, N: -3})) {
			t.Errorf("%s: %v, error %d", word, m, err)
		}
	}
}

// P5.1: required, of every kind of item: true, false, not there. A listener,
// a timer and the plan may bear it, but the model not that it is true.
func TestRequired(t *testing.T) {
	for _, word := range []string{"stage", "task", "milestone", "listener", "timer", "plan"} {
		for _, x := range []struct {
			attr     string
			required bool
		}{{"", false}, {" required='false'", false}, {" required='true'", true}} {
			s := in("<" + word + " id='a'" + x.attr + "/>")
			switch word {
			case "timer":
				s = in("<timer ticks='1'" + x.attr + " id='a'/>")
			case "plan":
				s = "<case xmlns='urn:sentry:case'><stage " + x.attr + " id='a'/></case>"
			}
			m, at, err := bind.Load(s)
			if waits := word == "listener" || word == "timer" || word == "plan"; waits && x.required {
				if at != 0 || err != api.ErrModel {
					t.Errorf("%s: place %d, error %d", s, at, err)
				}
			} else if err != api.OK || m.Items[len(m.Items)-1].Required != x.required {
				t.Errorf("%s: %v, error %d", s, m, err)
			}
		}
	}
}

// P5.1: numbers: what they are, and which are none. Those that are too great
// for a model are numbers nevertheless.
func TestNumbers(t *testing.T) {
	const none, great = -1 << 40, 1 << 40
	ticks := map[string]int{"1": 1, "9": 9, "10": 10, "19": 19, "99": 99, "100": 100, "101": great, "190": great, "999": great}
	for _, s := range []string{"", "0", "00", "01", "001", "1000", "10000", "-1", "+1", " 1", "1 ", "1a", "a", "0x1", "1.", ".1", "1e1", "1_0", "１", "1:", "1/", ":1", "/1", "-", "-0", "\u0661"} {
		ticks[s] = none
	}
	n := map[string]int{"0": 0, "1": 1, "-1": -1, "9": 9, "-9": -9, "10": 10, "-10": -10, "1000000": 1000000, "-1000000": -1000000, "999999": 999999, "-123456": -123456, "1000001": great, "-1000001": great, "9999999": great, "-9999999": great}
	for _, s := range []string{"", "-", "-0", "00", "01", "-01", "0000000", "--1", "+1", "+0", "10000000", "-10000000", "12345678", "1234567890123456789012", " 1", "1 ", "1a", "a", "0x1", "1.0", "1-", "1-1", "−1", "1:", "1/", "0 ", "-:", "\u0661"} {
		n[s] = none
	}
	// told holds what is told of a text whose element with the number begins at place.
	told := func(s string, place, want int, read func(m api.Model) int) {
		m, at, err := bind.Load(s)
		switch want {
		case none:
			if at != place || err != api.ErrBind {
				t.Errorf("%s: place %d, error %d", s, at, err)
			}
		case great:
			if at != 0 || err != api.ErrModel {
				t.Errorf("%s: place %d, error %d", s, at, err)
			}
		default:
			if err != api.OK || read(m) != want {
				t.Errorf("%s: %v, error %d", s, m, err)
			}
		}
	}
	for word, want := range ticks {
		s := in("<timer id='a' ticks='" + word + "'/>")
		told(s, strings.Index(s, "<timer"), want, func(m api.Model) int { return m.Items[1].Ticks })
	}
	for word, want := range n {
		s := in("<task id='a'><exit><if file='f' op='lt' n='" + word + "'/></exit></task>")
		told(s, strings.Index(s, "<if"), want, func(m api.Model) int { return m.Items[1].Exit[0].If[0].N })
	}
}

// P5.1: attributes in any order, the Space by prefixes and without.
func TestAnyOrderAnyPrefix(t *testing.T) {
	want := with(
		api.Item{ID: "w", Kind: api.Timer, Parent: "plan", Ticks: 12},
		api.Item{ID: "a", Kind: api.Task, Parent: "plan", Required: true, Entry: []api.Sentry{{On: []api.On{{Item: "w", Event: api.Occur}}, If: []api.Cond{{File: "f", Op: "<=", N: -2}}}}})
	for _, s := range []string{
		in("<timer id='w' required='false' ticks='12'/><task id='a' required='true'><entry><on item='w' event='occur'/><if file='f' op='le' n='-2'/></entry></task>"),
		in("<timer ticks='12' required='false' id='w'/><task required='true' id='a'><entry><on event='occur' item='w'/><if n='-2' op='le' file='f'/></entry></task>"),
		in("<timer required='false' id='w' ticks='12'/><task required='true' id='a'><entry><on event='occur' item='w'/><if op='le' n='-2' file='f'/></entry></task>"),
		in("<timer ticks='12' id='w'/><task required='true' id='a'><entry><on event='occur' item='w'/><if op='le' file='f' n='-2'/></entry></task>"),
		strings.NewReplacer("</", "</p:", "<", "<p:", "xmlns=", "xmlns:p=").Replace(in("<timer id='w' ticks='12'/><task id='a' required='true'><entry><on item='w' event='occur'/><if file='f' op='le' n='-2'/></entry></task>")),
		"<q:case xmlns:q='urn:sentry:case' xmlns='u'><q:file id='f'/><file xmlns='urn:sentry:case' id='g'/><q:stage id='plan'><p:timer id='w' ticks='12' xmlns:p='urn:sentry:case'/><task required='true' id='a' xmlns='urn:sentry:case' xmlns:z='u'><q:entry><on item='w' event='occur'/><if file='f' op='le' n='-2'/></q:entry></task></q:stage></q:case>",
		" \n<!-- é -->" + in("\t<timer id='w'  ticks='12' ></timer ><!----> <task id=\"a\" required=\"true\"><entry><on item='w' event='occur'/><if file='f' op='le' n='-2'/></entry></task>\r\n") + "\n<!-- <case/> -->",
	} {
		if m, n, err := bind.Load(s); err != api.OK || n != len(s) || !model.Same(m, want) {
			t.Errorf("%s: %v, %d, error %d", s, m, n, err)
		}
	}
}

// faulty are texts with a fault of an element; @ stands ahead of that one.
func faulty() []string {
	const c = "<case xmlns='urn:sentry:case'>"
	sentry := func(s string) string { return in("<task id='a'><entry>" + s + "</entry></task>") }
	return []string{
		// Another Space.
		"@<case><stage id='a'/></case>", "@<case xmlns='u'><stage id='a'/></case>", "@<case xmlns='urn:sentry:Case'><stage id='a'/></case>", "@<case xmlns='urn:sentry:cas'><stage id='a'/></case>", "@<case xmlns='urn:sentry:case '><stage id='a'/></case>",
		c + "@<file id='b' xmlns='u'/><stage id='a'/></case>", c + "@<file id='b' xmlns=''/><stage id='a'/></case>", "@" + c + "<stage id='a' xmlns='u'/></case>", in("@<task id='a' xmlns='u'/>"), in("<task id='a'>@<entry xmlns='u'/></task>"), in("<task id='a'>@<exit xmlns=''/></task>"),
		sentry("@<on xmlns='u' item='a' event='exit'/>"), sentry("@<if xmlns='u' file='f' op='eq' n='1'/>"), "<p:case xmlns:p='urn:sentry:case'><p:stage id='a'>@<task id='b'/></p:stage></p:case>", c + "<stage id='a'/>@<stage id='a' xmlns='u'/></case>",
		// The case without its stage: its own fault, ahead of those within.
		"@" + c + "</case>", "@" + c + "<file id='a'/></case>", "@" + c + "<file/><x/></case>", "@" + c + "<task id='a'/></case>", "@" + c + "<file id='a'><stage id='a'/></file></case>", "@" + c + "<Stage id='a'/></case>", "@" + c + "<case><stage id='a'/></case></case>", "@" + c + "<x><stage id='a'/></x></case>",
		// Others than a case outermost.
		"@<stage xmlns='urn:sentry:case' id='a'/>", "@<stage xmlns='urn:sentry:case' id='a'><stage id='b'/></stage>", "@<Case xmlns='urn:sentry:case'><stage id='a'/></Case>", "@<x xmlns='urn:sentry:case'><stage id='a'/></x>", "@<file xmlns='urn:sentry:case' id='a'/>", "@<entry xmlns='urn:sentry:case'/>",
		// What may not stand in a case; a file behind the stage; a second stage.
		c + "@<x/><stage id='a'/></case>", c + "@<task id='b'/><stage id='a'/></case>", c + "@<entry/><stage id='a'/></case>", c + "@<on item='a' event='exit'/><stage id='a'/></case>", c + "@<case><stage id='a'/></case><stage id='a'/></case>", c + "<file id='b'/>@<timer id='b' ticks='1'/><stage id='a'/></case>",
		c + "<stage id='a'/>@<file id='b'/></case>", c + "<file id='b'/><stage id='a'/>@<file id='c'/></case>", c + "<stage id='a'/>@<stage id='b'/></case>", c + "<stage id='a'><task id='c'/></stage>@<stage/></case>", c + "<stage id='a'/>@<task id='b'/></case>", c + "<stage id='a'/>@<x/></case>", c + "<stage id='a'/>@<stage id='b'/><file id='c'/></case>",
		// What may not stand in a file, an on, an if.
		c + "<file id='b'>@<x/></file><stage id='a'/></case>", c + "<file id='b'>@<file id='c'/></file><stage id='a'/></case>", c + "<file id='b'>@<stage id='c'/></file><stage id='a'/></case>", sentry("<on item='a' event='exit'>@<x/></on>"), sentry("<on item='a' event='exit'>@<on item='a' event='exit'/></on>"), sentry("<if file='f' op='eq' n='1'>@<x/></if>"), sentry("<if file='f' op='eq' n='1'>@<if file='f' op='eq' n='1'/></if>"),
		// What may not stand in a stage; an entry behind an exit, an exit or an entry behind an item.
		in("@<x/>"), in("@<file id='a'/>"), in("@<case/>"), in("@<on item='plan' event='exit'/>"), in("@<if file='f' op='eq' n='1'/>"), in("@<Task id='a'/>"), in("@<stages id='a'/>"), in("<exit/>@<entry/>"), in("<entry/><exit/><exit/>@<entry/><task id='a'/>"), in("<task id='a'/>@<entry/>"), in("<task id='a'/>@<exit/>"), in("<entry/><stage id='a'/>@<exit/>"), in("<exit/><timer id='a' ticks='1'/>@<entry/>"),
		in("<stage id='a'><task id='b'/>@<exit/></stage>"), in("<stage id='a'><stage id='b'/>@<entry/></stage>"), in("<stage id='a'><milestone id='b'/>@<exit/></stage>"), in("<stage id='a'><listener id='b'/>@<exit/></stage>"),
		// What may not stand in another item.
		in("<task id='a'>@<task id='b'/></task>"), in("<task id='a'>@<stage id='b'/></task>"), in("<milestone id='a'>@<milestone id='b'/></milestone>"), in("<listener id='a'>@<listener id='b'/></listener>"), in("<timer id='a' ticks='1'>@<timer id='b' ticks='1'/></timer>"), in("<timer id='a' ticks='1'>@<task id='b'/></timer>"),
		in("<task id='a'><exit/>@<entry/></task>"), in("<milestone id='a'><exit/>@<entry/></milestone>"), in("<listener id='a'><entry/><exit/>@<entry/></listener>"), in("<timer id='a' ticks='1'><exit/>@<entry/></timer>"), in("<task id='a'>@<on item='a' event='exit'/></task>"), in("<task id='a'>@<x/></task>"), in("<task id='a'>@<file id='f'/></task>"),
		// What may not stand in a sentry; an on behind an if.
		sentry("@<x/>"), sentry("@<entry/>"), sentry("@<exit/>"), sentry("@<task id='b'/>"), sentry("<if file='f' op='eq' n='1'/>@<on item='a' event='exit'/>"), sentry("<on item='a' event='exit'/><if file='f' op='eq' n='1'/>@<on item='a' event='start'/>"), in("<task id='a'><exit><if file='f' op='eq' n='1'/>@<on item='a' event='exit'/></exit></task>"), in("<task id='a'><exit>@<x/></exit></task>"),
		// Attributes that may not be.
		"@<case xmlns='urn:sentry:case' id='a'><stage id='a'/></case>", "@<case xmlns='urn:sentry:case' x=''><stage id='a'/></case>", c + "@<file id='b' x=''/><stage id='a'/></case>", c + "@<file id='b' required='true'/><stage id='a'/></case>", c + "@<file ID='b'/><stage id='a'/></case>", c + "@<stage id='a' x=''/></case>", c + "@<stage id='a' ticks='1'/></case>",
		in("@<stage id='a' x=''/>"), in("@<stage id='a' ticks='1'/>"), in("@<task id='a' ticks='1'/>"), in("@<milestone id='a' ticks='1'/>"), in("@<listener id='a' ticks='1'/>"), in("@<listener ticks='1' id='a' required='false'/>"), in("@<timer id='a' ticks='1' x='1'/>"), in("@<task id='a' item='b'/>"), in("@<task id='a' Required='true'/>"), in("@<task id='a' required='true' x=''/>"),
		in("<task id='a'>@<entry id='b'/></task>"), in("<task id='a'>@<exit id='b'/></task>"), in("<task id='a'>@<entry required='false'/></task>"), sentry("@<on item='a' event='exit' id='b'/>"), sentry("@<on item='a' event='exit' n='1'/>"), sentry("@<if file='f' op='eq' n='1' item='a'/>"), sentry("@<if file='f' op='eq' n='1' x=''/>"),
		// Attributes that lack.
		c + "@<file/><stage id='a'/></case>", c + "@<stage/></case>", c + "@<stage required='true'/></case>", in("@<stage/>"), in("@<task/>"), in("@<milestone/>"), in("@<listener/>"), in("@<timer/>"), in("@<task required='true'/>"), in("@<timer id='a'/>"), in("@<timer ticks='1'/>"), in("@<timer id='a' required='false'/>"), in("@<timer required='false' ticks='1'/>"), in("@<timer id='a' tick='1'/>"),
		sentry("@<on/>"), sentry("@<on item='a'/>"), sentry("@<on event='exit'/>"), sentry("@<if/>"), sentry("@<if file='f' op='eq'/>"), sentry("@<if file='f' n='1'/>"), sentry("@<if op='eq' n='1'/>"), sentry("@<on item='a' Event='exit'/>"), sentry("@<if File='f' op='eq' n='1'/>"),
		// Values that are none.
		in("@<task id='a' required=''/>"), in("@<task id='a' required='yes'/>"), in("@<task id='a' required='True'/>"), in("@<task id='a' required='FALSE'/>"), in("@<task id='a' required=' true'/>"), in("@<task id='a' required='1'/>"), in("@<listener id='a' required='0'/>"), in("@<timer id='a' ticks='1' required='no'/>"), c + "@<stage id='a' required=''/></case>",
		sentry("@<on item='a' event=''/>"), sentry("@<on item='a' event='Exit'/>"), sentry("@<on item='a' event='5'/>"), sentry("@<on item='a' event='exit '/>"), sentry("@<on item='a' event='exi'/>"), sentry("@<on item='a' event='created'/>"), sentry("@<if file='f' op='' n='1'/>"), sentry("@<if file='f' op='=' n='1'/>"), sentry("@<if file='f' op='&lt;' n='1'/>"), sentry("@<if file='f' op='LT' n='1'/>"), sentry("@<if file='f' op='l' n='1'/>"), sentry("@<if file='f' op='lte' n='1'/>"),
		// Two faults and more: the first `<`.
		c + "@<file/><stage/></case>", c + "@<stage><x/></stage><file/></case>", c + "<file id='a'>@<x/></file><y/><stage/></case>", in("<task id='a'><entry>@<x/></entry></task><y/>"), in("<task id='a'><entry/>@<y/></task><x/>"), in("<stage id='a'><task id='b'>@<z/></task></stage><task/>"), in("@<task><entry x=''/></task>"), in("<task id='a'><exit>@<on/></exit><entry/></task>"), in("<stage id='a'>@<task/></stage><exit/>"), in("<task id='a'><exit/>@<entry x=''><on/></entry></task>"), sentry("<if file='f' op='eq' n='1'>@<x/></if><on/>"), "@<x><y/></x>",
		// Ahead of a model that may not be.
		in("<task id='plan'/>@<x/>"), in("<task id='1'/><timer id='a' ticks='999'/>@<task/>"), in("<task id='a'><entry/><exit/></task>@<task id='b' required=''/>"), c + "<file id='1'/><stage id='' required='true'>@<x/></stage></case>",
	}
}

// P5.1: an element's fault is told by its place, and nothing else is.
func TestFaults(t *testing.T) {
	for _, marked := range faulty() {
		s := strings.Replace(marked, "@", "", 1)
		m, at, err := bind.Load(s)
		if at != strings.Index(marked, "@") || err != api.ErrBind || !reflect.DeepEqual(m, api.Model{}) {
			t.Errorf("%s: %v, place %d, error %d", marked, m, at, err)
		}
		hold(t, resolved(t, s))
	}
}

// P5.1: a model that may not be: the place of the outermost element.
func TestModelsThatMayNotBe(t *testing.T) {
	const c = "<case xmlns='urn:sentry:case'>"
	for _, s := range []string{
		c + "<stage id=''/></case>", c + "<stage id='1'/></case>", c + "<stage id='abcdefghijklm'/></case>", c + "<stage id='a' required='true'/></case>", c + "<stage id='a'><entry/></stage></case>", c + "<stage id='a'><exit><on item='a' event='exit'/></exit></stage></case>", c + "<file id=''/><stage id='a'/></case>", c + "<file id='b'/><file id='b'/><stage id='a'/></case>", c + strings.Repeat("<file id='b'/>", 7) + "<stage id='a'/></case>",
		in("<task id='plan'/>"), in("<task id='a'/><stage id='a'/>"), in("<task id=' a'/>"), in("<timer id='a' ticks='101'/>"), in("<listener id='a' required='true'/>"), in("<listener id='a'><entry><on item='plan' event='exit'/></entry></listener>"), in("<timer id='a' ticks='1'><entry><on item='plan' event='exit'/></entry></timer>"),
		in("<task id='a'><entry/></task>"), in("<task id='a'><entry><on item='b' event='exit'/></entry></task>"), in("<task id='a'><entry><on item='a' event='occur'/></entry></task>"), in("<task id='a'><entry><on item='a' event='exit'/><on item='a' event='exit'/></entry></task>"), in("<task id='a'><exit><if file='h' op='eq' n='1'/></exit></task>"), in("<task id='a'><exit><if file='f' op='eq' n='1000001'/></exit></task>"),
		in("<task id='a'>" + strings.Repeat("<exit><on item='a' event='start'/></exit>", 4) + "</task>"), in("<task id='a'><exit>" + strings.Repeat("<if file='f' op='eq' n='1'/>", 3) + "</exit></task>"), in("<stage id='a'><stage id='b'><stage id='c'><stage id='d'><stage id='e'/></stage></stage></stage></stage>" + strings.Repeat("<task id='x'/>", 11)), in("<stage id='a'><stage id='b'><stage id='c'><stage id='d'><stage id='e'/></stage></stage></stage></stage><task id='1'/>"), in("<stage id='a'><stage id='b'><stage id='c'><stage id='d'><stage id='e'><task id='x'/></stage></stage></stage></stage></stage>"),
	} {
		for _, ahead := range []string{"", "  ", "<!--x-->\n"} {
			m, at, err := bind.Load(ahead + s)
			if at != len(ahead) || err != api.ErrModel || !reflect.DeepEqual(m, api.Model{}) {
				t.Errorf("%s%s: %v, place %d, error %d", ahead, s, m, at, err)
			}
		}
		n := resolved(t, s)
		for _, place := range []int{0, 77, -5, 1<<63 - 1, -1 << 63} {
			n.At = place
			if m, at, err := bind.From(n); at != place || err != api.ErrModel || !reflect.DeepEqual(m, api.Model{}) {
				t.Errorf("%s: %v, place %d, error %d; not %d", s, m, at, err, place)
			}
		}
		hold(t, n)
	}
}

// P5.1: Load's errors in their order, each with its place: Parse's ahead of
// Resolve's, these ahead of From's, wherever they are.
func TestLoadErrors(t *testing.T) {
	for _, x := range []struct {
		s    string // @ stands at the place
		want api.Errno
	}{
		{"@", api.ErrForm}, {"@x", api.ErrForm}, {"<case xmlns='urn:sentry:case'><stage id='a'/></case>@x", api.ErrForm}, {"<case xmlns='urn:sentry:case'><stage id='a'/>@</cas>", api.ErrForm}, {in("<task id='a' @id='b'/>"), api.ErrForm}, {in("<task id=@'&x;'/>"), api.ErrForm}, {in("<task id='a'/>@x"), api.ErrForm},
		{"<x><p:y/></x>@<", api.ErrForm}, {in("<x/><p:y/><task id='1'/>") + "@x", api.ErrForm}, {"@" + in("<x/>"+strings.Repeat(" ", api.MaxDoc)), api.ErrLong}, {"@" + strings.Repeat("x", api.MaxDoc+1), api.ErrLong},
		{in(strings.Repeat("<x>", api.MaxDeep-2) + "@<x>"), api.ErrFull}, {"<p:a>" + strings.Repeat("<b/>", api.MaxElems-1) + "@<b/></p:a>", api.ErrFull}, {in("<task a='' b='' c='' d='' e='' f='' g='' h='' @i=''/>"), api.ErrFull},
		{in("@<p:task id='a'/>"), api.ErrSpace}, {"<x>@<p:y/></x>", api.ErrSpace}, {in("<x/>@<y p:z=''/>"), api.ErrSpace}, {in("<task id='plan'/>@<y xmlns:p=''/>"), api.ErrSpace}, {"@<p:case><stage id='a'/></p:case>", api.ErrSpace}, {in("@<task p:id='a'/>"), api.ErrSpace}, {in("<task/>@<task xmlns:xml='u'/>"), api.ErrSpace},
		{in("@<x/><task id='plan'/>"), api.ErrBind}, {" @<x/>", api.ErrBind}, {" @" + in("<task id='plan'/>"), api.ErrModel},
	} {
		s := strings.Replace(x.s, "@", "", 1)
		m, at, err := bind.Load(s)
		if at != strings.Index(x.s, "@") || err != x.want || !reflect.DeepEqual(m, api.Model{}) {
			t.Errorf("%.200s: %v, place %d, error %d; not %d", x.s, m, at, err, x.want)
		}
	}
}

// P5.1: a text may be as long as a text may; then its length is told.
func TestLoadLongest(t *testing.T) {
	s := in("")
	s += strings.Repeat(" ", api.MaxDoc-len(s))
	if m, n, err := bind.Load(s); n != api.MaxDoc || err != api.OK || !model.Same(m, with()) {
		t.Error(m, n, err)
	}
	if m, n, err := bind.Load(s + " "); n != 0 || err != api.ErrLong || !reflect.DeepEqual(m, api.Model{}) {
		t.Error(m, n, err)
	}
}

// P5.1: an attribute that stands twice in an element that was made.
func TestAttributesThatStandTwice(t *testing.T) {
	text := in("<timer id='w' required='false' ticks='5'/><task id='a' required='true'><entry><on item='w' event='occur'/><if file='f' op='le' n='-2'/></entry></task>")
	n := resolved(t, text)
	for i := range elems(&n) {
		for j := range elems(&n)[i].Attrs {
			for _, value := range []string{"", "other", elems(&n)[i].Attrs[j].Value} {
				for _, first := range []bool{true, false} {
					twice := copied(n)
					x := elems(&twice)[i]
					again := api.Attr{Name: x.Attrs[j].Name, Value: value}
					if first {
						x.Attrs = append([]api.Attr{again}, x.Attrs...)
					} else {
						x.Attrs = append(x.Attrs, again)
					}
					if m, at, err := bind.From(twice); at != x.At || err != api.ErrBind || !reflect.DeepEqual(m, api.Model{}) {
						t.Errorf("%v: %v, place %d, error %d", *x, m, at, err)
					}
					hold(t, twice)
				}
			}
		}
	}
	// One that stands twice is not made good by one that lacks.
	for _, s := range []string{"<timer id='a' ticks='1'/>", "<task id='a' required='true'/>", "<task id='a'><exit><on item='a' event='exit'/></exit></task>", "<task id='a'><exit><if file='f' op='eq' n='1'/></exit></task>"} {
		n := resolved(t, in(s))
		row := elems(&n)
		last := row[len(row)-1]
		for j := range last.Attrs {
			for k := range last.Attrs {
				spoiled := copied(n)
				row := elems(&spoiled)
				x := row[len(row)-1]
				x.Attrs[j] = x.Attrs[k]
				if _, at, err := bind.From(spoiled); j != k && (at != x.At || err != api.ErrBind) {
					t.Errorf("%v: place %d, error %d", *x, at, err)
				}
			}
		}
	}
}

// spoils turn an element, each in one way, into one that may not be wherever it stands.
func spoils() []func(n *api.Named) {
	return []func(n *api.Named){
		func(n *api.Named) { n.Space = "" },
		func(n *api.Named) { n.Space = urn + "x" },
		func(n *api.Named) { n.Local = "x" },
		func(n *api.Named) { n.Local = "" },
		func(n *api.Named) { n.Local = strings.ToUpper(n.Local) },
		func(n *api.Named) { n.Attrs = append(n.Attrs, api.Attr{Name: "x", Value: "1"}) },
		func(n *api.Named) { n.Attrs = append([]api.Attr{{Name: "xmlns", Value: urn}}, n.Attrs...) },
		func(n *api.Named) { n.Attrs = append(n.Attrs, api.Attr{}) },
		func(n *api.Named) {
			n.Attrs = append(n.Attrs, api.Attr{Name: "id", Value: "i"}, api.Attr{Name: "id", Value: "i"})
		},
		func(n *api.Named) { n.Attrs = append(n.Attrs, api.Attr{Name: "required", Value: "yes"}) },
	}
}

// full is a model that has each kind of element.
func full() api.Model {
	return with(
		api.Item{ID: "s", Kind: api.Stage, Parent: "plan", Required: true, Entry: on(api.On{Item: "m", Event: api.Occur}), Exit: when(api.Cond{File: "f", Op: ">", N: 9})},
		api.Item{ID: "t", Kind: api.Task, Parent: "s", Exit: []api.Sentry{{On: []api.On{{Item: "s", Event: api.Start}, {Item: "w", Event: api.Create}}, If: []api.Cond{{File: "g", Op: "<=", N: -9}, {File: "f", Op: "!="}}}}},
		api.Item{ID: "w", Kind: api.Timer, Parent: "s", Ticks: 40},
		api.Item{ID: "m", Kind: api.Milestone, Parent: "plan", Entry: append(on(api.On{Item: "t", Event: api.Complete}), when(api.Cond{File: "f", Op: "=", N: 1})...)},
		api.Item{ID: "l", Kind: api.Listener, Parent: "plan"})
}

// P5.1: each fault at each element alone, then any two: the first in the
// order of their `<` is told, whatever the elements' At are.
func TestFirstFault(t *testing.T) {
	places := []func(i int) int{
		func(i int) int { return i * 9 },
		func(i int) int { return 1000 - i },
		func(i int) int { return -i - 1 },
		func(i int) int { return i*7%26 - 13 },
	}
	root := bind.To(full())
	count := len(elems(&root))
	for i := range count {
		for j := i; j < count; j++ {
			for k, first := range spoils() {
				second := spoils()[(k*3+i+j)%len(spoils())]
				n := copied(root)
				row := elems(&n)
				place := places[(i+j+k)%len(places)]
				for at, x := range row {
					x.At = place(at)
				}
				first(row[i])
				if j > i {
					second(row[j])
				}
				want := i
				if plan := row[3]; plan.Space != urn || plan.Local != "stage" {
					want = 0 // the case lacks its stage, which is a fault of its own
				}
				if m, at, err := bind.From(n); at != place(want) || err != api.ErrBind || !reflect.DeepEqual(m, api.Model{}) {
					t.Fatalf("faults at %d and %d: place %d, error %d; not %d", i, j, at, err, place(want))
				}
				hold(t, n)
			}
		}
	}
}

// P5.1: Items in the order of their `<`, whatever their At is.
func TestOrderIsNotThatOfAt(t *testing.T) {
	r := rand.New(rand.NewSource(1))
	n := bind.To(full())
	for range 100 {
		for _, x := range elems(&n) {
			x.At = r.Intn(100) - 50
		}
		if m, at, err := bind.From(n); at != 0 || err != api.OK || !model.Same(m, full()) {
			t.Fatal(m, at, err)
		}
	}
}

// P5.1: trees at random, held against the oracle: without faults, with few, with many.
func TestFromGrownTrees(t *testing.T) {
	r := rand.New(rand.NewSource(5))
	for _, turns := range []int{0, 1, 2, 4} {
		var seen [16]int
		for range 6000 {
			n := bind.To(grown(r, 6))
			for range turns {
				spoil(r, &n)
			}
			for _, x := range elems(&n) {
				x.At = r.Intn(2000) - 1000
			}
			seen[hold(t, n)]++
		}
		if turns > 0 && (seen[api.OK] < 20 || seen[api.ErrBind] < 20 || seen[api.ErrModel] < 20) || turns == 0 && seen[api.OK] != 6000 {
			t.Errorf("%d turns: %v", turns, seen)
		}
	}
}

// W5: lists that are nil and lists without elements are one.
func TestEmptyLists(t *testing.T) {
	n := bind.To(full())
	for _, x := range elems(&n) {
		if len(x.Attrs) == 0 {
			x.Attrs = []api.Attr{}
		}
		if len(x.Kids) == 0 {
			x.Kids = []api.Named{}
		}
	}
	if m, at, err := bind.From(n); at != 0 || err != api.OK || !model.Same(m, full()) {
		t.Error(m, at, err)
	}
	if m, at, err := bind.From(api.Named{At: 3}); at != 3 || err != api.ErrBind || !reflect.DeepEqual(m, api.Model{}) {
		t.Error(m, at, err)
	}
}

// W1: trees of any names and values end without a panic.
func TestFromAnyTree(t *testing.T) {
	for _, s := range []string{"", ":", "id", "case", "\xff", "<", "-", strings.Repeat("9", 1<<20), strings.Repeat("x", 1<<20)} {
		for _, local := range []string{s, "case", "stage", "on", "if"} {
			row := []api.Attr{{Name: s, Value: s}, {Name: "id", Value: s}, {Name: "n", Value: s}}
			kid := api.Named{Space: s, Local: local, Attrs: row}
			bind.From(api.Named{Space: urn, Local: local, Attrs: row, Kids: []api.Named{kid, kid}})
			n := resolved(t, in("<task id='a'><exit><if file='f' op='eq' n='1'/></exit></task>"))
			for _, x := range elems(&n) {
				for j := range x.Attrs {
					was := x.Attrs[j].Value
					x.Attrs[j].Value = s
					hold(t, n)
					x.Attrs[j].Value = was
				}
			}
		}
	}
}

// W1: deep and wide trees end, with the place of a fault at their very end.
func TestFromGreatTrees(t *testing.T) {
	const many = 1<<16 - 2
	id := []api.Attr{{Name: "id", Value: "a"}}
	deep := api.Named{Space: urn, Local: "stage", Attrs: id, Kids: []api.Named{{Space: urn, Local: "task", Attrs: id, At: 9}}}
	inmost := &deep.Kids[0]
	for range many - 2 {
		deep = api.Named{Space: urn, Local: "stage", Attrs: id, Kids: []api.Named{deep}}
	}
	// An ID that is very long is not copied for each item that stands in it.
	long := []api.Attr{{Name: "id", Value: strings.Repeat("x", 1<<22)}}
	wide := api.Named{Space: urn, Local: "stage", Attrs: long, Kids: make([]api.Named, 1<<16)}
	for i := range wide.Kids {
		wide.Kids[i] = api.Named{Space: urn, Local: "task", Attrs: id}
	}
	for _, x := range []struct{ plan, last *api.Named }{{&deep, inmost}, {&wide, &wide.Kids[1<<16-1]}} {
		n := api.Named{Space: urn, Local: "case", Kids: []api.Named{*x.plan}, At: 4}
		if _, at, err := bind.From(n); at != 4 || err != api.ErrModel {
			t.Error(at, err)
		}
		x.last.At, x.last.Attrs = 9, nil
		if _, at, err := bind.From(n); at != 9 || err != api.ErrBind {
			t.Error(at, err)
		}
	}
	row := make([]api.Attr, 1<<20)
	for i := range row {
		row[i] = api.Attr{Name: "id", Value: "a"}
	}
	if _, at, err := bind.From(api.Named{Space: urn, Local: "case", Kids: []api.Named{{Space: urn, Local: "stage", Attrs: row, At: 7}}}); at != 7 || err != api.ErrBind {
		t.Error(at, err)
	}
}

// FuzzLoad holds any text against the oracle, and what is loaded against Save.
func FuzzLoad(f *testing.F) {
	for _, s := range faulty() {
		f.Add(strings.Replace(s, "@", "", 1))
	}
	f.Add(bind.Save(full()))
	f.Fuzz(func(t *testing.T, s string) {
		e, at, err := xml.Parse(s)
		var n api.Named
		if err == api.OK {
			n, at, err = space.Resolve(e)
		}
		var want api.Model
		if err == api.OK {
			want, at, err = asked(n)
		}
		if err == api.OK {
			at = len(s)
			again(t, want)
		}
		if m, gotAt, gotErr := bind.Load(s); !model.Same(m, want) || gotAt != at || gotErr != err {
			t.Fatalf("%q: %v, place %d, error %d; not %v, %d, %d", s, m, gotAt, gotErr, want, at, err)
		}
	})
}
