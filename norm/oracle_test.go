package norm_test

import (
	"bytes"
	"encoding/binary"
	"math/rand"
	"slices"
	"strconv"
	"strings"

	"sentry/api"
	"sentry/model"
)

// The oracle writes a sentry as bytes whose order is its own: it holds no two
// fields against each other. It puts a model in order by them, and Kids by
// Kids, without a way.

// key is a row of bytes in the order of what was written.
type key struct{ b []byte }

// text writes each byte with a 1 ahead of it, and a 0 behind the last one: so
// what ends first is ahead.
func (k *key) text(s string) {
	for _, c := range []byte(s) {
		k.b = append(k.b, 1, c)
	}
	k.b = append(k.b, 0)
}

// number writes a number so that those below nought are ahead.
func (k *key) number(n int) {
	k.b = binary.BigEndian.AppendUint64(k.b, uint64(n)^1<<63)
}

// another and end tell of a row whether there is one more.
func (k *key) another() { k.b = append(k.b, 1) }
func (k *key) end()     { k.b = append(k.b, 0) }

func keyOfOn(on api.On) string {
	var k key
	k.text(on.Item)
	k.number(on.Event)
	return string(k.b)
}

func keyOfCond(c api.Cond) string {
	var k key
	k.text(c.File)
	k.text(c.Op)
	k.number(c.N)
	return string(k.b)
}

func keyOf(s api.Sentry) string {
	var k key
	for _, on := range s.On {
		k.another()
		k.b = append(k.b, keyOfOn(on)...)
	}
	k.end()
	for _, c := range s.If {
		k.another()
		k.b = append(k.b, keyOfCond(c)...)
	}
	k.end()
	return string(k.b)
}

// cmpByKeys is what CmpSentry must answer.
func cmpByKeys(a, b api.Sentry) int {
	return bytes.Compare([]byte(keyOf(a)), []byte(keyOf(b)))
}

// byKeys is a row by the keys of what stands in it, none twice.
func byKeys[T any](row []T, keyOf func(T) string) []T {
	found := map[string]T{}
	var keys []string
	for _, x := range row {
		k := keyOf(x)
		if _, ok := found[k]; !ok {
			keys = append(keys, k)
		}
		found[k] = x
	}
	slices.Sort(keys)
	var out []T
	for _, k := range keys {
		out = append(out, found[k])
	}
	return out
}

func sentriesByKeys(row []api.Sentry) []api.Sentry {
	var out []api.Sentry
	for _, s := range row {
		out = append(out, api.Sentry{On: byKeys(s.On, keyOfOn), If: byKeys(s.If, keyOfCond)})
	}
	return byKeys(out, keyOf)
}

// ordered is what Normal must answer of a model that may be.
func ordered(m api.Model) api.Model {
	out := api.Model{Files: byKeys(m.Files, strings.Clone)}
	var place func(item api.Item)
	place = func(item api.Item) {
		item.Entry, item.Exit = sentriesByKeys(item.Entry), sentriesByKeys(item.Exit)
		out.Items = append(out.Items, item)
		var kids []api.Item
		for _, kid := range m.Items {
			if kid.Parent == item.ID {
				kids = append(kids, kid)
			}
		}
		for _, kid := range byKeys(kids, func(x api.Item) string { return x.ID }) {
			place(kid)
		}
	}
	place(m.Items[0])
	return out
}

var theOps = []string{"<", "<=", "=", "!=", ">=", ">"}

// pick is one of some things.
func pick[T any](r *rand.Rand, from ...T) T {
	return from[r.Intn(len(from))]
}

// grown is a model that may be, of any shape and in any order.
func grown(r *rand.Rand) api.Model {
	var m api.Model
	for i := range r.Intn(api.MaxFiles + 1) {
		m.Files = append(m.Files, pick(r, "f", "_", "F", "f.", "f-", "file")+strconv.Itoa(i))
	}
	m.Items = []api.Item{{ID: pick(r, "plan", "zz", "A"), Kind: api.Stage}}
	open := []string{m.Items[0].ID}
	for i := range r.Intn(api.MaxItems) {
		open = open[:1+r.Intn(min(len(open), api.MaxStages))]
		item := api.Item{ID: pick(r, "x", "X", "x.", "_", "x-") + strconv.Itoa(i), Kind: pick(r, api.Stage, api.Stage, api.Task, api.Milestone, api.Listener, api.Timer), Parent: open[len(open)-1]}
		if item.Kind == api.Timer {
			item.Ticks = 1 + r.Intn(api.MaxTicks)
		}
		item.Required = pick(r, true, false) && item.Kind <= api.Milestone
		m.Items = append(m.Items, item)
		if item.Kind == api.Stage {
			open = append(open, item.ID)
		}
	}
	for i := range m.Items[1:] {
		if m.Items[i+1].Kind <= api.Milestone {
			m.Items[i+1].Entry = grownSentries(r, m)
		}
		m.Items[i+1].Exit = grownSentries(r, m)
	}
	return m
}

// grownSentries are of few things, so that some are one.
func grownSentries(r *rand.Rand, m api.Model) []api.Sentry {
	var row []api.Sentry
	few := 1 + r.Intn(len(m.Items))
	for range r.Intn(api.MaxSentries + 1) {
		var s api.Sentry
		for range r.Intn(api.MaxOn + 1) {
			item := m.Items[r.Intn(few)]
			on := api.On{Item: item.ID, Event: 1 + r.Intn(5)}
			if model.Legal(item.Kind, on.Event) && !slices.Contains(s.On, on) {
				s.On = append(s.On, on)
			}
		}
		if len(m.Files) > 0 {
			for range r.Intn(api.MaxIf + 1) {
				s.If = append(s.If, api.Cond{File: pick(r, m.Files...), Op: pick(r, theOps...), N: pick(r, 0, 1, -1, 10, -api.MaxN, api.MaxN)})
			}
		}
		if len(s.On)+len(s.If) > 0 {
			row = append(row, s)
		}
	}
	if len(row) > 0 && len(row) < api.MaxSentries && pick(r, true, false) {
		row = append(row, mixedSentry(r, pick(r, row...)))
	}
	return row
}

// mixed is a row in any order.
func mixed[T any](r *rand.Rand, row []T) []T {
	out := slices.Clone(row)
	r.Shuffle(len(out), func(i, j int) { out[i], out[j] = out[j], out[i] })
	return out
}

// mixedSentry is a sentry in any order; what stands there twice may stand there once.
func mixedSentry(r *rand.Rand, s api.Sentry) api.Sentry {
	s.On, s.If = mixed(r, s.On), mixed(r, s.If)
	if len(s.If) == 1 && pick(r, true, false) {
		s.If = append(s.If, s.If[0])
	}
	return s
}

// mixedSentries are sentries in any order, some of them more often than before, as far as there may be so many.
func mixedSentries(r *rand.Rand, row []api.Sentry) []api.Sentry {
	var out []api.Sentry
	for _, s := range row {
		out = append(out, mixedSentry(r, s))
	}
	for len(out) > 0 && len(out) < api.MaxSentries && pick(r, true, false) {
		out = append(out, mixedSentry(r, pick(r, row...)))
	}
	return mixed(r, out)
}

// walked are a model's items, each with all that stands in it behind it, where
// the Kids of each stand in another order.
func walked(m api.Model, order func([]int) []int) []api.Item {
	var out []api.Item
	var place func(k int)
	place = func(k int) {
		out = append(out, m.Items[k])
		for _, kid := range order(model.Kids(m, m.Items[k].ID)) {
			place(kid)
		}
	}
	place(0)
	return out
}

// mixedModel is a model in another order that its Normal does not tell.
func mixedModel(r *rand.Rand, m api.Model) api.Model {
	out := api.Model{Files: mixed(r, m.Files), Items: walked(m, func(kids []int) []int { return mixed(r, kids) })}
	for i := range out.Items {
		x := &out.Items[i]
		x.Entry, x.Exit = mixedSentries(r, x.Entry), mixedSentries(r, x.Exit)
	}
	return out
}
