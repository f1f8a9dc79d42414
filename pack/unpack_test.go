package pack_test

import (
	"bytes"
	"encoding/binary"
	"hash/adler32"
	"math/rand"
	"reflect"
	"runtime"
	"slices"
	"testing"

	"sentry/api"
	"sentry/model"
	"sentry/pack"
)

// refused tells whether bytes are ErrForm, and nothing beside it.
func refused(t *testing.T, what string, b []byte) {
	t.Helper()
	if m, err := pack.Unpack(b); err != api.ErrForm || !reflect.DeepEqual(m, api.Model{}) {
		t.Errorf("%s: %d items, error %d", what, len(m.Items), err)
	}
}

// holdUnpack holds Unpack against the oracle, which says whether there is such
// a model.
func holdUnpack(t *testing.T, b []byte) bool {
	t.Helper()
	want, ok := asModel(b)
	if !ok {
		refused(t, "no model's", b)
		return false
	}
	if m, err := pack.Unpack(b); err != api.OK || !model.Same(m, want) {
		t.Errorf("%v: %v, error %d, not %v", b, m, err, want)
	}
	return true
}

// samples are some models, small and great.
func samples() []api.Model {
	return []api.Model{{Items: []api.Item{{ID: "a", Kind: api.Stage}}}, plan(), good(), fullest()}
}

// P6.2: nothing, less than a head, cut short at every place, with more behind.
func TestUnpackOfAnotherLength(t *testing.T) {
	refused(t, "nil", nil)
	refused(t, "empty", []byte{})
	for _, m := range samples() {
		b := packed(m)
		body := b[8:]
		for k := range b {
			// What is cut off stands behind the end still.
			refused(t, "cut short", b[:k])
			refused(t, "cut short, alone", slices.Clone(b[:k]))
			refused(t, "cut at its beginning", b[k+1:])
		}
		for k := range body {
			refused(t, "cut short, the sum made right", headed(body[:k]))
		}
		for _, more := range [][]byte{{0}, {1}, {128}, {255}, {'S'}, body, b, make([]byte, 1<<20)} {
			refused(t, "more behind", slices.Concat(b, more))
			refused(t, "more behind, the sum made right", headed(slices.Concat(body, more)))
			refused(t, "more ahead", slices.Concat(more, b))
			refused(t, "more ahead, the sum made right", headed(slices.Concat(more, body)))
		}
	}
}

// P6.2: one byte turned at every place, in every way.
func TestUnpackOfOneTurned(t *testing.T) {
	turned := func(b []byte, i, by int) {
		x := bytes.Clone(b)
		x[i] ^= byte(by)
		refused(t, "turned", x)
	}
	for _, m := range samples()[:3] {
		b := packed(m)
		for i := range b {
			for by := 1; by < 256; by++ {
				turned(b, i, by)
			}
		}
	}
	// The greatest model is too long for every way.
	b := packed(fullest())
	for i := range b {
		turned(b, i, 1)
		turned(b, i, 128)
		turned(b, i, 1+i%255)
	}
}

// P6.2: other heads, and sums that are not the one.
func TestUnpackOfOtherHeads(t *testing.T) {
	b := packed(good())
	body := b[8:]
	sum := adler32.Checksum(body)
	with := func(head string, n uint32) []byte {
		return append(binary.BigEndian.AppendUint32([]byte(head), n), body...)
	}
	if !bytes.Equal(with("SNT1", sum), b) {
		t.Fatal("the oracle's heads are unlike")
	}
	for _, head := range []string{"SNT0", "SNT2", "snt1", "SNTl", "1TNS", "\x00\x00\x00\x00", "SNT\xff", "", "SNT", "SNT11"} {
		refused(t, "head "+head, with(head, sum))
	}
	for _, n := range []uint32{0, 1, sum + 1, sum - 1, sum + 1<<16, sum<<16 | sum>>16, ^sum, adler32.Checksum(b[:4]), adler32.Checksum(append([]byte("SNT1"), body...))} {
		refused(t, "another sum", with("SNT1", n))
	}
	refused(t, "the sum's lowest byte first", append(binary.LittleEndian.AppendUint32([]byte("SNT1"), sum), body...))
	refused(t, "the sum of no bytes", headed(nil))
}

// replaced is a body with other bytes for a number, its sum made right.
func replaced(body []byte, k mark, by []byte) []byte {
	return headed(slices.Concat(body[:k.begin], by, body[k.end:]))
}

// padded is a number with more bytes than it takes.
func padded(n uint64, more int) []byte {
	b := binary.AppendUvarint(nil, n)
	b[len(b)-1] |= 128
	for range more - 1 {
		b = append(b, 128)
	}
	return append(b, 0)
}

// beyond is a number with a bit that 64 bits do not have.
func beyond(n uint64, bit int) []byte {
	b := binary.AppendUvarint(nil, n)
	b[len(b)-1] |= 128
	for len(b) < bit/7 {
		b = append(b, 128)
	}
	return append(b, 1<<(bit%7))
}

// P6.2: each number of a model with more bytes than it takes, and far too great.
func TestUnpackOfOtherNumbers(t *testing.T) {
	for _, m := range samples()[:3] {
		body, marks := written(m)
		if !bytes.Equal(replaced(body, marks[3], binary.AppendUvarint(nil, marks[3].value)), packed(m)) {
			t.Fatal("the marks are wrong")
		}
		for _, k := range marks {
			for more := 1; more < 14; more++ {
				refused(t, k.what+" of more bytes", replaced(body, k, padded(k.value, more)))
			}
			for bit := 22; bit < 64; bit++ {
				refused(t, k.what+" that is too great", replaced(body, k, binary.AppendUvarint(nil, k.value+1<<bit)))
			}
			for bit := 64; bit < 140; bit++ {
				refused(t, k.what+" that wraps round", replaced(body, k, beyond(k.value, bit)))
			}
			refused(t, k.what+" without an end", headed(slices.Concat(body[:k.begin], bytes.Repeat([]byte{128}, 300))))
		}
	}
}

// P6.2: each number of a model, as other ones: just those that make a model
// are let through.
func TestUnpackOfEachNumber(t *testing.T) {
	body, marks := written(good())
	counts := map[string][2]int{}
	for _, k := range marks {
		for n := range uint64(300) {
			if n == k.value {
				continue
			}
			x := counts[k.what]
			if holdUnpack(t, replaced(body, k, binary.AppendUvarint(nil, n))) {
				x[1]++
			} else {
				x[0]++
			}
			counts[k.what] = x
		}
	}
	// Another count, or length, leaves nothing that could be read as it stands.
	rows := []string{"texts", "length", "files", "sentries", "ons", "ifs"}
	for what, x := range counts {
		if x[0] == 0 && what != "n" || (x[1] == 0) != slices.Contains(rows, what) {
			t.Error(what, x)
		}
	}
}

// P6.2: places that are none, and what is neither 1 nor 0, and counts above
// what there may be and what there is.
func TestUnpackOfWrongNumbers(t *testing.T) {
	m := good()
	body, marks := written(m)
	files, items := uint64(len(m.Files)), uint64(len(m.Items))
	first := map[string]uint64{
		"texts": files + items + 1, "files": files + items + 1, "kind": 6, "parent": items + 1, "required": 2, "ticks": api.MaxTicks + 1,
		"sentries": api.MaxSentries + 1, "ons": api.MaxOn + 1, "item": items, "event": 6, "ifs": api.MaxIf + 1, "file": files, "op": 6,
		"n": 2*api.MaxN + 1, "length": api.MaxName + 1,
	}
	for _, k := range marks {
		from, ok := first[k.what]
		if !ok {
			t.Fatal(k.what)
		}
		for n := from; n < from+300; n++ {
			refused(t, k.what, replaced(body, k, binary.AppendUvarint(nil, n)))
		}
	}
	// No files: no place is one.
	refused(t, "a file where there is none", headed([]byte{2, 1, 'a', 1, 'b', 0, 1, 0, 0, 0, 0, 0, 2, 1, 0, 0, 0, 1, 0, 1, 0, 0, 0}))
	// The same, but for a file.
	if !holdUnpack(t, headed([]byte{3, 1, 'f', 1, 'a', 1, 'b', 1, 1, 0, 0, 0, 0, 0, 2, 1, 0, 0, 0, 1, 0, 1, 0, 0, 0})) {
		t.Error("a model is none")
	}
	refused(t, "texts alone, all of them files", headed([]byte{2, 1, 'f', 1, 'g', 2}))
	refused(t, "no texts", headed([]byte{0, 0}))
	refused(t, "more files than texts", headed([]byte{1, 1, 'a', 2, 1, 0, 0, 0, 0, 0}))
	refused(t, "a file too many", headed([]byte{1, 1, 'a', 1, 1, 0, 0, 0, 0, 0}))
	refused(t, "an item's bytes lack", headed([]byte{2, 1, 'a', 1, 'b', 0, 1, 0, 0, 0, 0, 0}))
}

// P6.2: models that may not be, their sum made right.
func TestUnpackOfNoModel(t *testing.T) {
	if !holdUnpack(t, packed(good())) {
		t.Fatal("a model is none")
	}
	for _, c := range faults() {
		m := good()
		c.do(&m)
		if model.Is(m) {
			t.Errorf("%s: it may be", c.what)
		}
		refused(t, c.what, packed(m))
	}
}

// P6.2, P6.3: bytes turned at random, the sum made right: each is refused, or
// is just its model's.
func TestUnpackOfTurnedBodies(t *testing.T) {
	r := rand.New(rand.NewSource(2))
	counts := map[bool]int{}
	for _, m := range samples()[:3] {
		body, _ := written(m)
		for i := range body {
			for d := 1; d < 256; d++ {
				x := bytes.Clone(body)
				x[i] ^= byte(d)
				counts[holdUnpack(t, headed(x))]++
			}
		}
	}
	for range 30000 {
		body, _ := written(grown(r, 6))
		for range 1 + r.Intn(3) {
			i := r.Intn(len(body))
			switch r.Intn(4) {
			case 0:
				body[i] = byte(r.Intn(8))
			case 1:
				body[i]++
			case 2:
				body = slices.Delete(body, i, i+1)
			case 3:
				body = slices.Insert(body, i, byte(r.Intn(4)))
			}
			if len(body) == 0 {
				body = []byte{0}
			}
		}
		counts[holdUnpack(t, headed(body))]++
	}
	if counts[true] < 1000 || counts[false] < 10000 {
		t.Error(counts)
	}
}

// allocated is how much memory Unpack takes, behind a first call.
func allocated(b []byte) uint64 {
	pack.Unpack(b)
	var before, behind runtime.MemStats
	runtime.ReadMemStats(&before)
	pack.Unpack(b)
	runtime.ReadMemStats(&behind)
	return behind.TotalAlloc - before.TotalAlloc
}

// P6.2, W1: no count, be it ever so great, takes memory or time.
func TestUnpackOfGreatCounts(t *testing.T) {
	body, marks := written(fullest())
	const most = 1 << 17
	for _, k := range marks {
		for _, n := range []uint64{1 << 21, 1<<28 - 1, 1 << 31, 1<<32 - 1, 1 << 62, 1<<63 - 1, 1 << 63, 1<<64 - 1} {
			by := binary.AppendUvarint(nil, n)
			refused(t, k.what, replaced(body, k, by))
			refused(t, k.what+", nothing behind", headed(slices.Concat(body[:k.begin], by)))
			if k.begin > 300 {
				continue
			}
			if size := allocated(replaced(body, k, by)); size > most {
				t.Errorf("%s of %d: %d bytes", k.what, n, size)
			}
		}
	}
	// Counts that the bytes have, above all that may be.
	for _, x := range []byte{0, 1, 127, 128, 255} {
		many := bytes.Repeat([]byte{x}, 1<<24)
		refused(t, "many of one byte", many)
		for _, head := range [][]byte{nil, binary.AppendUvarint(nil, 1<<23), {1, 1, 'a', 0}, {1, 1, 'a', 0, 1, 0, 0, 0}, binary.AppendUvarint([]byte{1}, 1<<23)} {
			b := headed(slices.Concat(head, many))
			refused(t, "many behind a count", b)
			if size := allocated(b); size > most {
				t.Errorf("%v, then many of %d: %d bytes", head, x, size)
			}
		}
	}
}

// FuzzUnpack holds Unpack of any body against the oracle, its sum made right.
func FuzzUnpack(f *testing.F) {
	for _, m := range samples() {
		body, _ := written(m)
		f.Add(body)
	}
	f.Fuzz(func(t *testing.T, body []byte) {
		holdUnpack(t, headed(body))
		refused(t, "a head behind the head", headed(headed(body)))
	})
}
