package pack_test

import (
	"bytes"
	"encoding/binary"
	"hash/adler32"
	"math/rand"
	"slices"
	"strconv"
	"strings"

	"sentry/api"
	"sentry/model"
)

// The oracle writes and reads by what the library has of numbers and of sums.
// It writes models that may not be, too, and keeps where each number stands.

var theOps = []string{"<", "<=", "=", "!=", ">=", ">"}

// mark is a number that was written.
type mark struct {
	what       string
	begin, end int
	value      uint64
}

type scribe struct {
	body  []byte
	marks []mark
}

func (s *scribe) put(what string, n int) {
	begin := len(s.body)
	s.body = binary.AppendUvarint(s.body, uint64(n))
	s.marks = append(s.marks, mark{what, begin, len(s.body), uint64(n)})
}

func (s *scribe) putSigned(what string, n int) {
	begin := len(s.body)
	s.body = binary.AppendVarint(s.body, int64(n))
	value, _ := binary.Uvarint(s.body[begin:])
	s.marks = append(s.marks, mark{what, begin, len(s.body), value})
}

// written is a model without its head, with the numbers in it.
func written(m api.Model) ([]byte, []mark) {
	var s scribe
	var ids []string
	for _, item := range m.Items {
		ids = append(ids, item.ID)
	}
	texts := slices.Concat(m.Files, ids)
	s.put("texts", len(texts))
	for _, x := range texts {
		s.put("length", len(x))
		s.body = append(s.body, x...)
	}
	s.put("files", len(m.Files))
	for _, item := range m.Items {
		s.put("kind", item.Kind)
		s.put("parent", slices.Index(ids, item.Parent)+1)
		s.put("required", map[bool]int{true: 1}[item.Required])
		s.put("ticks", item.Ticks)
		for _, row := range [][]api.Sentry{item.Entry, item.Exit} {
			s.put("sentries", len(row))
			for _, x := range row {
				s.put("ons", len(x.On))
				for _, on := range x.On {
					s.put("item", slices.Index(ids, on.Item))
					s.put("event", on.Event)
				}
				s.put("ifs", len(x.If))
				for _, c := range x.If {
					s.put("file", slices.Index(m.Files, c.File))
					s.put("op", slices.Index(theOps, c.Op))
					s.putSigned("n", c.N)
				}
			}
		}
	}
	return s.body, s.marks
}

// headed is a body with its head, the sum made right.
func headed(body []byte) []byte {
	return append(binary.BigEndian.AppendUint32([]byte("SNT1"), adler32.Checksum(body)), body...)
}

// packed is a model as bytes.
func packed(m api.Model) []byte {
	body, _ := written(m)
	return headed(body)
}

// asModel is what Unpack must answer, and whether there is such a model.
func asModel(b []byte) (m api.Model, ok bool) {
	defer func() {
		if recover() != nil {
			m, ok = api.Model{}, false
		}
	}()
	m = mustRead(bytes.NewReader(b[8:]))
	if !model.Is(m) || !bytes.Equal(packed(m), b) {
		return api.Model{}, false
	}
	return m, true
}

// mustRead reads a body; it panics where there is none.
func mustRead(r *bytes.Reader) api.Model {
	number := func() int {
		n, err := binary.ReadUvarint(r)
		if err != nil || n > 1<<40 {
			panic("no number")
		}
		return int(n)
	}
	count := func() int {
		n := number()
		if n > r.Len() {
			panic("more than there is")
		}
		return n
	}
	var texts []string
	for range count() {
		text := make([]byte, count())
		r.Read(text)
		texts = append(texts, string(text))
	}
	files := number()
	ids := texts[files:]
	m := api.Model{Files: texts[:files]}
	for _, id := range ids {
		item := api.Item{ID: id, Kind: number()}
		item.Parent = append([]string{""}, ids...)[number()]
		item.Required = number() != 0
		item.Ticks = number()
		for _, row := range []*[]api.Sentry{&item.Entry, &item.Exit} {
			for range count() {
				var s api.Sentry
				for range count() {
					s.On = append(s.On, api.On{Item: ids[number()], Event: number()})
				}
				for range count() {
					c := api.Cond{File: texts[:files][number()], Op: theOps[number()]}
					n := number()
					c.N = n/2 ^ -(n & 1)
					s.If = append(s.If, c)
				}
				*row = append(*row, s)
			}
		}
		m.Items = append(m.Items, item)
	}
	return m
}

// good is a model that has all there is: each kind, each event, each op.
func good() api.Model {
	return api.Model{
		Files: []string{"f", "g.long_name"},
		Items: []api.Item{
			{ID: "plan", Kind: api.Stage},
			{ID: "outer", Kind: api.Stage, Parent: "plan", Required: true, Exit: []api.Sentry{{If: []api.Cond{{File: "f", Op: ">=", N: 64}}}}},
			{ID: "inner", Kind: api.Stage, Parent: "outer", Entry: []api.Sentry{{On: []api.On{{Item: "outer", Event: api.Start}}}}},
			{ID: "task", Kind: api.Task, Parent: "inner", Required: true, Entry: []api.Sentry{{On: []api.On{{Item: "task", Event: api.Create}}}}},
			{ID: "mile", Kind: api.Milestone, Parent: "outer", Required: true,
				Entry: []api.Sentry{
					{On: []api.On{{Item: "task", Event: api.Complete}, {Item: "hear", Event: api.Occur}, {Item: "mile", Event: api.Exit}}},
					{On: []api.On{{Item: "time", Event: api.Exit}}, If: []api.Cond{{File: "g.long_name", Op: "!=", N: -7}, {File: "f", Op: "<"}}},
				},
				Exit: []api.Sentry{{On: []api.On{{Item: "mile", Event: api.Create}}}, {If: []api.Cond{{File: "g.long_name", Op: "=", N: -api.MaxN}}}, {If: []api.Cond{{File: "f", Op: ">", N: 2}}}}},
			{ID: "hear", Kind: api.Listener, Parent: "plan", Exit: []api.Sentry{{On: []api.On{{Item: "plan", Event: api.Complete}}, If: []api.Cond{{File: "g.long_name", Op: "<=", N: api.MaxN}}}}},
			{ID: "time", Kind: api.Timer, Parent: "plan", Ticks: api.MaxTicks},
		},
	}
}

// plan is a model of the plan and these, with two Files.
func plan(more ...api.Item) api.Model {
	return api.Model{Files: []string{"f", "g"}, Items: append([]api.Item{{ID: "plan", Kind: api.Stage}}, more...)}
}

// asks is a task that ends by these sentries.
func asks(row ...api.Sentry) api.Model {
	return plan(api.Item{ID: "t", Kind: api.Task, Parent: "plan", Exit: row})
}

// fullest is a model of which there is no more, in names, in rows, in depth.
func fullest() api.Model {
	m := api.Model{Items: []api.Item{{ID: strings.Repeat("p", api.MaxName), Kind: api.Stage}}}
	for i := range api.MaxFiles {
		m.Files = append(m.Files, strings.Repeat(string(rune('u'+i)), api.MaxName))
	}
	last := m.Items[0].ID
	for i := range api.MaxItems - 1 {
		item := api.Item{ID: strings.Repeat(string(rune('a'+i)), api.MaxName-1) + "Z", Kind: api.Stage, Parent: last, Required: true}
		if i < api.MaxStages-1 {
			last = item.ID
		}
		m.Items = append(m.Items, item)
	}
	for i := 1; i < api.MaxItems; i++ {
		s := api.Sentry{If: []api.Cond{{File: m.Files[0], Op: "<", N: -api.MaxN}, {File: m.Files[api.MaxFiles-1], Op: ">", N: api.MaxN}}}
		for _, event := range []int{api.Complete, api.Create, api.Exit} {
			s.On = append(s.On, api.On{Item: m.Items[api.MaxItems-i].ID, Event: event})
		}
		m.Items[i].Entry, m.Items[i].Exit = []api.Sentry{s, s, s}, []api.Sentry{s, s, s}
	}
	return m
}

// pick is one of some things.
func pick[T any](r *rand.Rand, from ...T) T {
	return from[r.Intn(len(from))]
}

// grown is a model that may be, of any shape, of at most so many items.
func grown(r *rand.Rand, most int) api.Model {
	var m api.Model
	for i := range r.Intn(api.MaxFiles + 1) {
		m.Files = append(m.Files, pick(r, "f", "_", "longer.file")+strconv.Itoa(i))
	}
	m.Items = []api.Item{{ID: "plan", Kind: api.Stage}}
	open := []string{"plan"}
	for i := range r.Intn(most) {
		open = open[:1+r.Intn(min(len(open), api.MaxStages))]
		item := api.Item{ID: pick(r, "x", "Y-", "f") + strconv.Itoa(i), Kind: pick(r, api.Stage, api.Stage, api.Task, api.Milestone, api.Listener, api.Timer), Parent: open[len(open)-1]}
		if item.Kind == api.Timer {
			item.Ticks = 1 + r.Intn(api.MaxTicks)
		}
		item.Required = pick(r, true, false) && item.Kind <= api.Milestone
		m.Items = append(m.Items, item)
		if item.Kind == api.Stage {
			open = append(open, item.ID)
		}
	}
	for i := range m.Items[1:] {
		if m.Items[i+1].Kind <= api.Milestone {
			m.Items[i+1].Entry = grownSentries(r, m)
		}
		m.Items[i+1].Exit = grownSentries(r, m)
	}
	return m
}

func grownSentries(r *rand.Rand, m api.Model) []api.Sentry {
	var row []api.Sentry
	for range r.Intn(api.MaxSentries + 1) {
		var s api.Sentry
		for range r.Intn(api.MaxOn + 1) {
			on := api.On{Item: pick(r, m.Items...).ID, Event: 1 + r.Intn(5)}
			if model.Legal(m.Items[model.Place(m, on.Item)].Kind, on.Event) && !slices.Contains(s.On, on) {
				s.On = append(s.On, on)
			}
		}
		if len(m.Files) > 0 {
			for range r.Intn(api.MaxIf + 1) {
				s.If = append(s.If, api.Cond{File: pick(r, m.Files...), Op: pick(r, theOps...), N: pick(r, 0, 7, -64, 64, r.Intn(2*api.MaxN+1)-api.MaxN)})
			}
		}
		if len(s.On)+len(s.If) > 0 {
			row = append(row, s)
		}
	}
	return row
}
