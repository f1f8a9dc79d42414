package bind_test

import (
	"math/rand"
	"regexp"
	"slices"
	"strconv"
	"strings"

	"sentry/api"
	"sentry/model"
)

// The oracle asks of each element alone, by patterns: of the names of those
// that stand ahead of it in the same one, and of its attributes, sorted. It
// tells all faults ahead of all fields.

const (
	urn  = "urn:sentry:case"
	some = `"(?:[^"\\]|\\.)*"`
)

// ahead is how the Kids of an element may begin.
var ahead = map[string]*regexp.Regexp{
	"case":      regexp.MustCompile(`^(file )*(stage )?$`),
	"stage":     regexp.MustCompile(`^(entry )*(exit )*((stage|task|milestone|listener|timer) )*$`),
	"task":      regexp.MustCompile(`^(entry )*(exit )*$`),
	"milestone": regexp.MustCompile(`^(entry )*(exit )*$`),
	"listener":  regexp.MustCompile(`^(entry )*(exit )*$`),
	"timer":     regexp.MustCompile(`^(entry )*(exit )*$`),
	"entry":     regexp.MustCompile(`^(on )*(if )*$`),
	"exit":      regexp.MustCompile(`^(on )*(if )*$`),
	"file":      regexp.MustCompile(`^$`),
	"on":        regexp.MustCompile(`^$`),
	"if":        regexp.MustCompile(`^$`),
}

// attrs are how an element's attributes may be, sorted.
var attrs = map[string]*regexp.Regexp{
	"case":      regexp.MustCompile(`^$`),
	"file":      regexp.MustCompile(`^"id"=` + some + ` $`),
	"stage":     regexp.MustCompile(`^"id"=` + some + ` ("required"="(true|false)" )?$`),
	"task":      regexp.MustCompile(`^"id"=` + some + ` ("required"="(true|false)" )?$`),
	"milestone": regexp.MustCompile(`^"id"=` + some + ` ("required"="(true|false)" )?$`),
	"listener":  regexp.MustCompile(`^"id"=` + some + ` ("required"="(true|false)" )?$`),
	"timer":     regexp.MustCompile(`^"id"=` + some + ` ("required"="(true|false)" )?"ticks"="[1-9][0-9]{0,2}" $`),
	"entry":     regexp.MustCompile(`^$`),
	"exit":      regexp.MustCompile(`^$`),
	"on":        regexp.MustCompile(`^"event"="(create|start|complete|occur|exit)" "item"=` + some + ` $`),
	"if":        regexp.MustCompile(`^"file"=` + some + ` "n"="(0|-?[1-9][0-9]{0,6})" "op"="(lt|le|eq|ne|ge|gt)" $`),
}

// sorted are an element's attributes as one text.
func sorted(n api.Named) string {
	var row []string
	for _, a := range n.Attrs {
		row = append(row, strconv.Quote(a.Name)+"="+strconv.Quote(a.Value)+" ")
	}
	slices.Sort(row)
	return strings.Join(row, "")
}

// begun are the names of some elements as one text.
func begun(row []api.Named) string {
	out := ""
	for _, n := range row {
		if n.Space == urn {
			out += n.Local + " "
		} else {
			out += "? "
		}
	}
	return out
}

// faultsIn are the At of all elements with a fault, in the order of their `<`.
// Whether n stands where it may is asked by the one it stands in.
func faultsIn(n api.Named, stands bool) []int {
	pattern := attrs[n.Local]
	ok := stands && n.Space == urn && pattern != nil && pattern.MatchString(sorted(n))
	if n.Local == "case" && !slices.Contains(strings.Fields(begun(n.Kids)), "stage") {
		ok = false
	}
	var out []int
	if !ok {
		out = append(out, n.At)
	}
	for i, k := range n.Kids {
		may := ahead[n.Local]
		out = append(out, faultsIn(k, may != nil && may.MatchString(begun(n.Kids[:i+1])))...)
	}
	return out
}

// value is that of an attribute; nothing, if it is not there.
func value(n api.Named, name string) string {
	for _, a := range n.Attrs {
		if a.Name == name {
			return a.Value
		}
	}
	return ""
}

func number(s string) int {
	n, _ := strconv.Atoi(s)
	return n
}

var (
	kinds  = map[string]int{"stage": 1, "task": 2, "milestone": 3, "listener": 4, "timer": 5}
	events = map[string]int{"create": 1, "start": 2, "complete": 3, "occur": 4, "exit": 5}
	ops    = map[string]string{"lt": "<", "le": "<=", "eq": "=", "ne": "!=", "ge": ">=", "gt": ">"}
)

// sentriesOf are the sentries of one kind of an element without faults.
func sentriesOf(n api.Named, local string) []api.Sentry {
	var row []api.Sentry
	for _, k := range n.Kids {
		if k.Local != local {
			continue
		}
		var s api.Sentry
		for _, x := range k.Kids {
			if x.Local == "on" {
				s.On = append(s.On, api.On{Item: value(x, "item"), Event: events[value(x, "event")]})
			} else {
				s.If = append(s.If, api.Cond{File: value(x, "file"), Op: ops[value(x, "op")], N: number(value(x, "n"))})
			}
		}
		row = append(row, s)
	}
	return row
}

// itemsOf are the items of an element without faults, in the order of their `<`.
func itemsOf(n api.Named, parent string) []api.Item {
	item := api.Item{
		ID: value(n, "id"), Kind: kinds[n.Local], Parent: parent, Required: value(n, "required") == "true", Ticks: number(value(n, "ticks")),
		Entry: sentriesOf(n, "entry"), Exit: sentriesOf(n, "exit"),
	}
	row := []api.Item{item}
	for _, k := range n.Kids {
		if kinds[k.Local] != 0 {
			row = append(row, itemsOf(k, item.ID)...)
		}
	}
	return row
}

// asked is what From must answer.
func asked(n api.Named) (api.Model, int, api.Errno) {
	if faults := faultsIn(n, n.Local == "case"); len(faults) > 0 {
		return api.Model{}, faults[0], api.ErrBind
	}
	var m api.Model
	for _, k := range n.Kids {
		if k.Local == "file" {
			m.Files = append(m.Files, value(k, "id"))
		} else {
			m.Items = itemsOf(k, "")
		}
	}
	if !model.Is(m) {
		return api.Model{}, n.At, api.ErrModel
	}
	return m, 0, api.OK
}

// wordOf is the word of a number or an op.
func wordOf[T comparable](words map[string]T, what T) string {
	for word, x := range words {
		if x == what {
			return word
		}
	}
	return "?"
}

// written is what Save must answer: the items one behind the other, the ends of
// those that have Kids kept until one comes that does not stand in them.
func written(m api.Model) string {
	s := `<case xmlns="urn:sentry:case">`
	for _, f := range m.Files {
		s += `<file id="` + f + `"/>`
	}
	var open []string // by ID; then by their words
	var ends []string
	for i, x := range m.Items {
		for len(open) > 0 && open[len(open)-1] != x.Parent {
			s += ends[len(ends)-1]
			open, ends = open[:len(open)-1], ends[:len(ends)-1]
		}
		word := wordOf(kinds, x.Kind)
		s += "<" + word + ` id="` + x.ID + `"`
		if x.Required {
			s += ` required="true"`
		}
		if x.Kind == api.Timer {
			s += ` ticks="` + strconv.Itoa(x.Ticks) + `"`
		}
		within := writtenSentries("entry", x.Entry) + writtenSentries("exit", x.Exit)
		last := i == len(m.Items)-1 || m.Items[i+1].Parent != x.ID
		switch {
		case within == "" && last:
			s += "/>"
		case last:
			s += ">" + within + "</" + word + ">"
		default:
			s += ">" + within
			open, ends = append(open, x.ID), append(ends, "</"+word+">")
		}
	}
	slices.Reverse(ends)
	return s + strings.Join(ends, "") + "</case>"
}

func writtenSentries(local string, row []api.Sentry) string {
	s := ""
	for _, x := range row {
		s += "<" + local + ">"
		for _, on := range x.On {
			s += `<on item="` + on.Item + `" event="` + wordOf(events, on.Event) + `"/>`
		}
		for _, c := range x.If {
			s += `<if file="` + c.File + `" op="` + wordOf(ops, c.Op) + `" n="` + strconv.Itoa(c.N) + `"/>`
		}
		s += "</" + local + ">"
	}
	return s
}

// oneOf is one of some things.
func oneOf[T any](r *rand.Rand, from ...T) T {
	return from[r.Intn(len(from))]
}

// grown is a model that may be, of any shape, with at most that many items.
func grown(r *rand.Rand, most int) api.Model {
	var m api.Model
	for i := range r.Intn(api.MaxFiles + 1) {
		m.Files = append(m.Files, oneOf(r, "f", "_", "long.file-")+strconv.Itoa(i))
	}
	m.Items = []api.Item{{ID: "plan", Kind: api.Stage}}
	open := []string{"plan"}
	for i := range r.Intn(most) {
		open = open[:1+r.Intn(min(len(open), api.MaxStages))]
		item := api.Item{ID: oneOf(r, "x", "Y-", "f") + strconv.Itoa(i), Kind: oneOf(r, 1, 1, 2, 3, 4, 5), Parent: open[len(open)-1]}
		if item.Kind == api.Timer {
			item.Ticks = oneOf(r, 1, 9, 10, 99, api.MaxTicks)
		}
		item.Required = oneOf(r, true, false) && item.Kind <= api.Milestone
		m.Items = append(m.Items, item)
		if item.Kind == api.Stage {
			open = append(open, item.ID)
		}
	}
	for i := range m.Items[1:] {
		if m.Items[i+1].Kind <= api.Milestone {
			m.Items[i+1].Entry = grownSentries(r, m)
		}
		m.Items[i+1].Exit = grownSentries(r, m)
	}
	return m
}

func grownSentries(r *rand.Rand, m api.Model) []api.Sentry {
	var row []api.Sentry
	for range r.Intn(api.MaxSentries + 1) {
		var s api.Sentry
		for range r.Intn(api.MaxOn + 1) {
			item := oneOf(r, m.Items...)
			on := api.On{Item: item.ID, Event: oneOf(r, 1, 2, 3, 4, 5)}
			if model.Legal(item.Kind, on.Event) && !slices.Contains(s.On, on) {
				s.On = append(s.On, on)
			}
		}
		if len(m.Files) > 0 {
			for range r.Intn(api.MaxIf + 1) {
				s.If = append(s.If, api.Cond{File: oneOf(r, m.Files...), Op: oneOf(r, "<", "<=", "=", "!=", ">=", ">"), N: oneOf(r, 0, 7, -10, 123456, -api.MaxN, api.MaxN)})
			}
		}
		if len(s.On)+len(s.If) > 0 {
			row = append(row, s)
		}
	}
	return row
}

// elems are all elements of a tree, in the order of their `<`.
func elems(n *api.Named) []*api.Named {
	row := []*api.Named{n}
	for i := range n.Kids {
		row = append(row, elems(&n.Kids[i])...)
	}
	return row
}

// anyElem is an element that may stand somewhere, or nowhere.
func anyElem(r *rand.Rand) api.Named {
	n := api.Named{Space: oneOf(r, urn, urn, urn, urn, urn, "", "u"), Local: oneOf(r, "case", "file", "stage", "task", "milestone", "listener", "timer", "entry", "exit", "on", "if", "x")}
	switch n.Local {
	case "file", "stage", "task", "milestone", "listener", "timer":
		n.Attrs = []api.Attr{{Name: "id", Value: oneOf(r, "new", "new", "plan", "x1", "")}}
	case "on":
		n.Attrs = []api.Attr{{Name: "item", Value: oneOf(r, "plan", "plan", "x1", "none")}, {Name: "event", Value: oneOf(r, "create", "start", "complete", "occur", "exit")}}
	case "if":
		n.Attrs = []api.Attr{{Name: "file", Value: oneOf(r, "f0", "_0", "none")}, {Name: "op", Value: oneOf(r, "lt", "le", "eq", "ne", "ge", "gt")}, {Name: "n", Value: oneOf(r, "0", "-1", "1000000", "1000001")}}
	}
	if n.Local == "timer" {
		n.Attrs = append(n.Attrs, api.Attr{Name: "ticks", Value: oneOf(r, "1", "100", "101")})
	}
	return n
}

// anyAttr is an attribute that may stand somewhere, or nowhere.
func anyAttr(r *rand.Rand) api.Attr {
	return api.Attr{
		Name:  oneOf(r, "id", "required", "ticks", "item", "event", "file", "op", "n", "x", "", "ID", "xmlns"),
		Value: oneOf(r, "plan", "x1", "true", "false", "True", "", " ", "0", "-0", "1", "01", "-1", "99", "999", "1000", "1000000", "9999999", "-9999999", "12345678", "lt", "gt", "<", "=", "create", "occur", "exit", "Exit"),
	}
}

// spoil turns one thing of a tree, often into one that may not be.
func spoil(r *rand.Rand, root *api.Named) {
	n := oneOf(r, elems(root)...)
	switch r.Intn(11) {
	case 0:
		n.Space = oneOf(r, urn, "", "u", urn+"s", "URN:sentry:case")
	case 1:
		n.Local = anyElem(r).Local
	case 2, 3:
		n.Attrs = slices.Insert(n.Attrs, r.Intn(len(n.Attrs)+1), anyAttr(r))
	case 4:
		r.Shuffle(len(n.Attrs), func(i, j int) { n.Attrs[i], n.Attrs[j] = n.Attrs[j], n.Attrs[i] })
	case 5:
		n.Kids = slices.Insert(n.Kids, r.Intn(len(n.Kids)+1), anyElem(r))
	case 6, 7, 8:
		spoilAttr(r, n)
	default:
		spoilKid(r, n)
	}
}

func spoilAttr(r *rand.Rand, n *api.Named) {
	if len(n.Attrs) == 0 {
		return
	}
	i := r.Intn(len(n.Attrs))
	switch r.Intn(4) {
	case 0:
		n.Attrs = slices.Delete(n.Attrs, i, i+1)
	case 1:
		n.Attrs = append(n.Attrs, n.Attrs[i])
	case 2:
		n.Attrs[i].Value = anyAttr(r).Value
	case 3:
		n.Attrs[i].Name = anyAttr(r).Name
	}
}

func spoilKid(r *rand.Rand, n *api.Named) {
	if len(n.Kids) == 0 {
		return
	}
	i, j := r.Intn(len(n.Kids)), r.Intn(len(n.Kids))
	switch r.Intn(3) {
	case 0:
		n.Kids = slices.Delete(n.Kids, i, i+1)
	case 1:
		n.Kids = slices.Insert(n.Kids, j, copied(n.Kids[i]))
	case 2:
		n.Kids[i], n.Kids[j] = n.Kids[j], n.Kids[i]
	}
}

// copied is another tree like it.
func copied(n api.Named) api.Named {
	n.Attrs, n.Kids = slices.Clone(n.Attrs), slices.Clone(n.Kids)
	for i := range n.Kids {
		n.Kids[i] = copied(n.Kids[i])
	}
	return n
}
