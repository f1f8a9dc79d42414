package pack_test

import (
	"bytes"
	"hash/adler32"
	"math"
	"math/rand"
	"reflect"
	"strconv"
	"strings"
	"testing"

	"sentry/api"
	"sentry/model"
	"sentry/pack"
)

// P6.1: sums that are known.
func TestSumOfTexts(t *testing.T) {
	for s, want := range map[string]uint32{
		"": 1, "\x00": 0x00010001, "\x01": 0x00020002, "\xff": 0x01000100, "a": 0x00620062,
		"abc": 0x024d0127, "Wikipedia": 0x11e60398, "message digest": 0x29750586,
		"abcdefghijklmnopqrstuvwxyz": 0x90860b20,
	} {
		if n := pack.Sum([]byte(s)); n != want {
			t.Errorf("%q: %08x, not %08x", s, n, want)
		}
	}
	if n := pack.Sum(nil); n != 1 {
		t.Error(n)
	}
}

// P6.1: sums of few and many bytes, held against the words and the library:
// about where a first passes 65521, where c does, and where 32 bits would not
// do for what was not lessened in time.
func TestSumOfMany(t *testing.T) {
	r := rand.New(rand.NewSource(6))
	for _, fill := range []func() byte{func() byte { return 255 }, func() byte { return 0 }, func() byte { return byte(r.Intn(256)) }} {
		b := make([]byte, 1<<17)
		for i := range b {
			b[i] = fill()
		}
		a, c := 1, 0
		for n, x := range b {
			if n < 600 || 5500 < n && n < 5600 || n%1000 < 2 {
				if got, want := pack.Sum(b[:n]), uint32(c%65521)<<16|uint32(a%65521); got != want {
					t.Fatalf("%d: %08x, not %08x", n, got, want)
				}
			}
			a, c = a+int(x), c+a+int(x)
		}
		if got, want := pack.Sum(b), adler32.Checksum(b); got != want {
			t.Fatalf("%08x, not %08x", got, want)
		}
	}
	long := bytes.Repeat([]byte{255}, 1<<25)
	if got, want := pack.Sum(long), adler32.Checksum(long); got != want {
		t.Errorf("%08x, not %08x", got, want)
	}
	// a is just a multiple of 65521, and so is nought: 256 of 255, and 240.
	b := append(bytes.Repeat([]byte{255}, 256), 240)
	if n := pack.Sum(b); n&0xffff != 0 {
		t.Errorf("%08x", n)
	}
}

// P6.3: bytes that differ in one have unlike Sums.
func TestSumOfOneTurned(t *testing.T) {
	b := packed(good())
	want := pack.Sum(b)
	for i := range b {
		for d := 1; d < 256; d++ {
			x := bytes.Clone(b)
			x[i] ^= byte(d)
			if pack.Sum(x) == want {
				t.Errorf("%d turned by %d", i, d)
			}
		}
	}
}

// holdPack holds Pack against bytes behind the head.
func holdPack(t *testing.T, m api.Model, body ...byte) {
	t.Helper()
	if b, err := pack.Pack(m); err != api.OK || !bytes.Equal(b, headed(body)) {
		t.Errorf("%v: %v, error %d, not %v", m, b, err, headed(body))
	}
}

// P6.1: bytes that are written out.
func TestPackOrdinary(t *testing.T) {
	one := api.Model{Items: []api.Item{{ID: "a", Kind: api.Stage}}}
	// a goes through 2, 3, 100, 100, 101 and stays; c is the sum of these, 811.
	if b, err := pack.Pack(one); err != api.OK || string(b) != "SNT1\x03\x2b\x00\x65\x01\x01a\x00\x01\x00\x00\x00\x00\x00" {
		t.Errorf("%q, error %d", b, err)
	}
	holdPack(t, one, 1, 1, 'a', 0, 1, 0, 0, 0, 0, 0)
	holdPack(t, api.Model{Files: []string{"f", "g1"}, Items: one.Items}, 3, 1, 'f', 2, 'g', '1', 1, 'a', 2, 1, 0, 0, 0, 0, 0)
	// A file that is named as an item stands in the texts twice.
	holdPack(t, api.Model{Files: []string{"a"}, Items: one.Items}, 2, 1, 'a', 1, 'a', 1, 1, 0, 0, 0, 0, 0)

	head := []byte{4, 1, 'f', 1, 'g', 4, 'p', 'l', 'a', 'n', 1, 't', 2, 1, 0, 0, 0, 0, 0}
	holds := func(item api.Item, rest ...byte) {
		t.Helper()
		item.ID, item.Parent = "t", "plan"
		holdPack(t, plan(item), append(bytes.Clone(head), rest...)...)
	}
	holds(api.Item{Kind: api.Stage}, 1, 1, 0, 0, 0, 0)
	holds(api.Item{Kind: api.Task}, 2, 1, 0, 0, 0, 0)
	holds(api.Item{Kind: api.Task, Required: true}, 2, 1, 1, 0, 0, 0)
	holds(api.Item{Kind: api.Milestone}, 3, 1, 0, 0, 0, 0)
	holds(api.Item{Kind: api.Listener}, 4, 1, 0, 0, 0, 0)
	holds(api.Item{Kind: api.Timer, Ticks: 1}, 5, 1, 0, 1, 0, 0)
	holds(api.Item{Kind: api.Timer, Ticks: 100}, 5, 1, 0, 100, 0, 0)
	on := func(event int) []api.Sentry { return []api.Sentry{{On: []api.On{{Item: "t", Event: event}}}} }
	holds(api.Item{Kind: api.Task, Entry: on(api.Create)}, 2, 1, 0, 0, 1, 1, 1, 1, 0, 0)
	holds(api.Item{Kind: api.Task, Exit: on(api.Start)}, 2, 1, 0, 0, 0, 1, 1, 1, 2, 0)
	holds(api.Item{Kind: api.Task, Entry: on(api.Complete), Exit: on(api.Exit)}, 2, 1, 0, 0, 1, 1, 1, 3, 0, 1, 1, 1, 5, 0)
	holds(api.Item{Kind: api.Timer, Ticks: 9, Exit: on(api.Occur)}, 5, 1, 0, 9, 0, 1, 1, 1, 4, 0)
	for i, op := range theOps {
		cond := api.Sentry{If: []api.Cond{{File: "g", Op: op, N: 3}}}
		holds(api.Item{Kind: api.Task, Entry: []api.Sentry{cond}}, 2, 1, 0, 0, 1, 0, 1, 1, byte(i), 6, 0)
	}
	both := api.Sentry{On: []api.On{{Item: "plan", Event: api.Exit}, {Item: "t", Event: api.Create}}, If: []api.Cond{{File: "f", Op: "=", N: -1}, {File: "g", Op: ">", N: 300}}}
	holds(api.Item{Kind: api.Task, Exit: []api.Sentry{both, both}}, 2, 1, 0, 0, 0, 2, 2, 0, 5, 1, 1, 2, 0, 2, 1, 1, 5, 0xd8, 4, 2, 0, 5, 1, 1, 2, 0, 2, 1, 1, 5, 0xd8, 4)
}

// P6.1: stages within stages, and places behind and ahead of what names them.
func TestPackNested(t *testing.T) {
	holdPack(t, api.Model{Items: []api.Item{
		{ID: "a", Kind: api.Stage},
		{ID: "b", Kind: api.Stage, Parent: "a"},
		{ID: "c", Kind: api.Stage, Parent: "b", Exit: []api.Sentry{{On: []api.On{{Item: "e", Event: api.Exit}}}}},
		{ID: "d", Kind: api.Task, Parent: "c"},
		{ID: "e", Kind: api.Task, Parent: "b", Exit: []api.Sentry{{On: []api.On{{Item: "a", Event: api.Exit}}}}},
		{ID: "f", Kind: api.Task, Parent: "a"},
	}}, 6, 1, 'a', 1, 'b', 1, 'c', 1, 'd', 1, 'e', 1, 'f', 0,
		1, 0, 0, 0, 0, 0,
		1, 1, 0, 0, 0, 0,
		1, 2, 0, 0, 0, 1, 1, 4, 5, 0,
		2, 3, 0, 0, 0, 0,
		2, 2, 0, 0, 0, 1, 1, 0, 5, 0,
		2, 1, 0, 0, 0, 0)
}

// P6.1: N at the edges of its bytes, and all that are near nought.
func TestPackNumbers(t *testing.T) {
	for n, want := range map[int][]byte{
		0: {0}, -1: {1}, 1: {2}, -2: {3}, 63: {126}, -64: {127}, 64: {0x80, 1}, -65: {0x81, 1}, 65: {0x82, 1},
		127: {0xfe, 1}, -128: {0xff, 1}, 128: {0x80, 2}, 8191: {0xfe, 0x7f}, -8192: {0xff, 0x7f}, 8192: {0x80, 0x80, 1}, -8193: {0x81, 0x80, 1},
		api.MaxN: {0x80, 0x89, 0x7a}, -api.MaxN: {0xff, 0x88, 0x7a}, 1 - api.MaxN: {0xfd, 0x88, 0x7a},
	} {
		body := []byte{4, 1, 'f', 1, 'g', 4, 'p', 'l', 'a', 'n', 1, 't', 2, 1, 0, 0, 0, 0, 0, 2, 1, 0, 0, 0, 1, 0, 1, 0, 2}
		holdPack(t, asks(api.Sentry{If: []api.Cond{{File: "f", Op: "=", N: n}}}), append(body, want...)...)
	}
	hold := func(n int) {
		m := asks(api.Sentry{If: []api.Cond{{File: "f", Op: "=", N: n}, {File: "g", Op: "<", N: -n}}})
		again(t, m)
	}
	for n := -20000; n <= 20000; n++ {
		hold(n)
	}
	for n := 1000; n >= 0; n-- {
		hold(api.MaxN - n)
		hold(n - api.MaxN)
	}
	for n := 20000; n <= api.MaxN; n += 997 {
		hold(n)
	}
}

// again holds Pack and Unpack of a model that may be against each other, and
// Pack against the oracle.
func again(t *testing.T, m api.Model) {
	t.Helper()
	b, err := pack.Pack(m)
	if err != api.OK || !bytes.Equal(b, packed(m)) {
		t.Fatalf("%v: %v, error %d, not %v", m, b, err, packed(m))
	}
	back, err := pack.Unpack(b)
	if err != api.OK || !model.Same(back, m) {
		t.Fatalf("%v: %v, error %d", m, back, err)
	}
	if x, err := pack.Pack(back); err != api.OK || !bytes.Equal(x, b) {
		t.Fatalf("%v: %v, error %d", m, x, err)
	}
}

// P6.1, P6.3: models of all shapes.
func TestAgain(t *testing.T) {
	r := rand.New(rand.NewSource(1))
	again(t, good())
	again(t, fullest())
	for _, most := range []int{1, 2, 5, api.MaxItems} {
		for range 5000 {
			again(t, grown(r, most))
		}
	}
}

// P6.1, P6.3: as many Files, as many items, ids as long as may be, each number.
func TestAgainHowMany(t *testing.T) {
	for files := range api.MaxFiles + 1 {
		for items := 1; items <= api.MaxItems; items++ {
			for _, length := range []int{2, 3, api.MaxName - 1, api.MaxName} {
				var m api.Model
				for i := range files {
					m.Files = append(m.Files, strings.Repeat(string(rune('f'+i)), length))
				}
				for i := range items {
					m.Items = append(m.Items, api.Item{ID: strings.Repeat(string(rune('A'+i)), length), Kind: api.Task, Parent: "AA" + strings.Repeat("A", length-2)})
				}
				m.Items[0].Kind, m.Items[0].Parent = api.Stage, ""
				again(t, m)
			}
		}
	}
	for ticks := 1; ticks <= api.MaxTicks; ticks++ {
		again(t, plan(api.Item{ID: "w", Kind: api.Timer, Parent: "plan", Ticks: ticks}))
	}
	for deep := range api.MaxStages + 1 {
		m := plan()
		for i := range deep {
			m.Items = append(m.Items, api.Item{ID: "s" + strconv.Itoa(i), Kind: api.Stage, Parent: m.Items[i].ID})
		}
		again(t, m)
	}
}

// W5: rows that are nil and rows without elements are one.
func TestPackOfEmptyRows(t *testing.T) {
	m := good()
	for i := range m.Items {
		for _, row := range []*[]api.Sentry{&m.Items[i].Entry, &m.Items[i].Exit} {
			if *row == nil {
				*row = []api.Sentry{}
			}
			for j := range *row {
				s := &(*row)[j]
				if s.On == nil {
					s.On = []api.On{}
				}
				if s.If == nil {
					s.If = []api.Cond{}
				}
			}
		}
	}
	if b, err := pack.Pack(m); err != api.OK || !bytes.Equal(b, packed(good())) {
		t.Error(b, err)
	}
	holdPack(t, api.Model{Files: []string{}, Items: []api.Item{{ID: "a", Kind: api.Stage, Exit: []api.Sentry{}}}}, 1, 1, 'a', 0, 1, 0, 0, 0, 0, 0)
}

// change turns a good model into one that may not be.
type change struct {
	what string
	do   func(m *api.Model)
}

// faults are changes whose models can still be written as bytes; items 1 to 6
// are outer, inner, task, mile, hear and time.
func faults() []change {
	one := api.Sentry{On: []api.On{{Item: "plan", Event: api.Create}}}
	cond := api.Cond{File: "f", Op: "="}
	out := []change{
		{"no items", func(m *api.Model) { m.Items = nil }},
		{"a file twice", func(m *api.Model) { m.Files[1] = "f" }},
		{"an id twice", func(m *api.Model) { m.Items[6].ID = "hear" }},
		{"the plan's id twice", func(m *api.Model) { m.Items[6].ID = "plan" }},
		{"a plan that is a task", func(m *api.Model) { *m = api.Model{Items: []api.Item{{ID: "a", Kind: api.Task}}} }},
		{"a plan in itself", func(m *api.Model) { m.Items[0].Parent = "plan" }},
		{"a plan in another one", func(m *api.Model) { m.Items[0].Parent = "outer" }},
		{"a required plan", func(m *api.Model) { m.Items[0].Required = true }},
		{"a plan with Entry", func(m *api.Model) { m.Items[0].Entry = []api.Sentry{one} }},
		{"a plan with Exit", func(m *api.Model) { m.Items[0].Exit = []api.Sentry{one} }},
		{"no Parent", func(m *api.Model) { m.Items[6].Parent = "" }},
		{"a Parent that is itself", func(m *api.Model) { m.Items[1].Parent = "outer" }},
		{"a Parent that stands behind", func(m *api.Model) { m.Items[1].Parent = "inner" }},
		{"a Parent that is a task", func(m *api.Model) { m.Items[4].Parent = "task" }},
		{"a Parent that has ended", func(m *api.Model) { m.Items[6].Parent = "inner" }},
		{"Ticks of a task", func(m *api.Model) { m.Items[3].Ticks = 1 }},
		{"Ticks of a plan", func(m *api.Model) { m.Items[0].Ticks = 1 }},
		{"a timer without Ticks", func(m *api.Model) { m.Items[6].Ticks = 0 }},
		{"a timer of many Ticks", func(m *api.Model) { m.Items[6].Ticks = api.MaxTicks + 1 }},
		{"a timer of very many Ticks", func(m *api.Model) { m.Items[6].Ticks = 1<<31 + 1 }},
		{"a required listener", func(m *api.Model) { m.Items[5].Required = true }},
		{"a required timer", func(m *api.Model) { m.Items[6].Required = true }},
		{"a listener with Entry", func(m *api.Model) { m.Items[5].Entry = []api.Sentry{one} }},
		{"a timer with Entry", func(m *api.Model) { m.Items[6].Entry = []api.Sentry{one} }},
		{"no such kind", func(m *api.Model) { m.Items[6].Kind, m.Items[6].Ticks = 6, 0 }},
		{"kind nought", func(m *api.Model) { m.Items[4].Kind = 0 }},
		{"four Entry", func(m *api.Model) { m.Items[3].Entry = []api.Sentry{one, one, one, one} }},
		{"four Exit", func(m *api.Model) { m.Items[6].Exit = []api.Sentry{one, one, one, one} }},
		{"a sentry of nothing", func(m *api.Model) { m.Items[3].Exit = []api.Sentry{{}} }},
		{"four On", func(m *api.Model) {
			m.Items[3].Exit = []api.Sentry{{On: []api.On{{Item: "plan", Event: 1}, {Item: "plan", Event: 2}, {Item: "plan", Event: 3}, {Item: "plan", Event: 5}}}}
		}},
		{"three If", func(m *api.Model) { m.Items[3].Exit = []api.Sentry{{If: []api.Cond{cond, cond, cond}}} }},
		{"an On twice", func(m *api.Model) { m.Items[4].Entry[0].On[2] = m.Items[4].Entry[0].On[0] }},
		{"an event that is not legal", func(m *api.Model) { m.Items[4].Entry[0].On[0].Event = api.Occur }},
		{"a start of a timer", func(m *api.Model) { m.Items[4].Entry[1].On[0].Event = api.Start }},
		{"event nought", func(m *api.Model) { m.Items[4].Entry[0].On[0].Event = 0 }},
		{"no such event", func(m *api.Model) { m.Items[4].Entry[0].On[0].Event = 6 }},
		{"N too great", func(m *api.Model) { m.Items[1].Exit[0].If[0].N = api.MaxN + 1 }},
		{"N too small", func(m *api.Model) { m.Items[1].Exit[0].If[0].N = -api.MaxN - 1 }},
		{"N of 32 bits", func(m *api.Model) { m.Items[1].Exit[0].If[0].N = 1 << 32 }},
		{"the greatest N", func(m *api.Model) { m.Items[1].Exit[0].If[0].N = math.MaxInt }},
		{"the least N", func(m *api.Model) { m.Items[1].Exit[0].If[0].N = math.MinInt }},
		{"seven files", func(m *api.Model) { m.Files = append(m.Files, "h", "i", "j", "k", "l") }},
		{"seventeen items", func(m *api.Model) {
			for i := range 10 {
				m.Items = append(m.Items, api.Item{ID: "x" + strconv.Itoa(i), Kind: api.Task, Parent: "plan"})
			}
		}},
		{"six stages within one another", func(m *api.Model) {
			*m = plan()
			for i := range 6 {
				m.Items = append(m.Items, api.Item{ID: "s" + strconv.Itoa(i), Kind: api.Stage, Parent: m.Items[i].ID})
			}
		}},
	}
	for _, s := range []string{"", "1", "a:b", "a b", "\x00", "\xff", strings.Repeat("x", api.MaxName+1), strings.Repeat("x", 200), strings.Repeat("x", 1<<16)} {
		out = append(out,
			change{"an id that is no name", func(m *api.Model) { m.Items[6].ID = s }},
			change{"a plan's id that is no name", func(m *api.Model) { *m = api.Model{Items: []api.Item{{ID: s, Kind: api.Stage}}} }},
			change{"a file that is no name", func(m *api.Model) { m.Files = append(m.Files, s) }})
	}
	return out
}

// P6.1: ErrArg, if m may not be; nothing beside it.
func TestPackOfNoModel(t *testing.T) {
	all := append(faults(),
		change{"nothing", func(m *api.Model) { *m = api.Model{} }},
		change{"empty rows", func(m *api.Model) { *m = api.Model{Files: []string{}, Items: []api.Item{}} }},
		change{"a Parent that there is not", func(m *api.Model) { m.Items[6].Parent = "zz" }},
		change{"a plan in none", func(m *api.Model) { m.Items[0].Parent = "zz" }},
		change{"an On of no item", func(m *api.Model) { m.Items[4].Entry[0].On[0].Item = "zz" }},
		change{"an If of no file", func(m *api.Model) { m.Items[1].Exit[0].If[0].File = "zz" }},
		change{"an Op that there is not", func(m *api.Model) { m.Items[1].Exit[0].If[0].Op = "==" }},
		change{"no Op", func(m *api.Model) { m.Items[1].Exit[0].If[0].Op = "" }},
		change{"a kind below nought", func(m *api.Model) { m.Items[3].Kind = -1 }},
		change{"an event below nought", func(m *api.Model) { m.Items[4].Entry[0].On[0].Event = -1 }},
		change{"Ticks below nought", func(m *api.Model) { m.Items[6].Ticks = -1 }},
		change{"many files", func(m *api.Model) { m.Files = make([]string, 1<<20) }},
		change{"many items", func(m *api.Model) { m.Items = append(m.Items, make([]api.Item, 1<<20)...) }},
		change{"many sentries", func(m *api.Model) { m.Items[3].Exit = make([]api.Sentry, 1<<20) }},
	)
	for _, c := range all {
		m := good()
		c.do(&m)
		if b, err := pack.Pack(m); len(b) != 0 || err != api.ErrArg {
			t.Errorf("%s: %d bytes, error %d", c.what, len(b), err)
		}
	}
}

// W2, W7: what is answered is the same each time, and stays.
func TestAnswersStay(t *testing.T) {
	r := rand.New(rand.NewSource(9))
	b, _ := pack.Pack(good())
	m, _ := pack.Unpack(b)
	for range 200 {
		x, _ := pack.Pack(grown(r, api.MaxItems))
		pack.Unpack(x)
		pack.Unpack(x[:len(x)-1])
		pack.Pack(api.Model{})
	}
	if !bytes.Equal(b, packed(good())) || !model.Same(m, good()) {
		t.Error("an answer is another one later")
	}
	x, err := pack.Pack(good())
	back, fault := pack.Unpack(x)
	if err != api.OK || fault != api.OK || !bytes.Equal(x, b) || !reflect.DeepEqual(back, m) {
		t.Error("an answer is another one, asked again")
	}
}
