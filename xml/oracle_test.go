package xml_test

import (
	"regexp"
	"strconv"
	"strings"
	"unicode/utf8"

	"sentry/api"
)

// The oracle reads a text as the chapter's Words write it, by one loop over
// states and by expressions that are anchored at the place: it shares no code
// and no shape with the program. What it has read is a list of events, one a
// line.
type oracle struct {
	s      string
	at     int
	stack  []string
	count  int
	events []string
}

var (
	oracleBlanks = regexp.MustCompile(`\A[ \t\n\r]+`)
	oracleRun    = regexp.MustCompile(`\A[A-Za-z0-9_.:-]*`)
	oracleQual   = regexp.MustCompile(`\A[A-Za-z_][A-Za-z0-9_.-]{0,11}(:[A-Za-z_][A-Za-z0-9_.-]{0,11})?\z`)
	oracleRemark = regexp.MustCompile(`(?s)\A<!--((?:[^-]|-[^-])*)-->`)
	oracleValue  = regexp.MustCompile(`(?s)\A(?:"([^"<]*)"|'([^'<]*)')`)
	oracleRef    = regexp.MustCompile(`\A(?:amp|lt|gt|quot|apos|#[0-9]{1,7}|#x[0-9a-fA-F]{1,7})\z`)
)

// read answers the events, the place and the error of a text.
func read(s string) ([]string, int, api.Errno) {
	if len(s) > 8000 {
		return nil, 0, api.ErrLong
	}
	o := &oracle{s: s}
	place, err := o.run()
	if err != api.OK {
		return nil, place, err
	}
	return o.events, len(s), api.OK
}

func (o *oracle) run() (int, api.Errno) {
	begun := false
	for {
		rest := o.s[o.at:]
		switch {
		case oracleBlanks.MatchString(rest):
			o.at += len(oracleBlanks.FindString(rest))
		case strings.HasPrefix(rest, "<!--"):
			m := oracleRemark.FindStringSubmatch(rest)
			if m == nil || !allSigns(m[1]) {
				return o.at, api.ErrForm
			}
			o.at += len(m[0])
		case begun && len(o.stack) == 0:
			if rest == "" {
				return 0, api.OK
			}
			return o.at, api.ErrForm
		case !strings.HasPrefix(rest, "<"):
			return o.at, api.ErrForm
		case begun && strings.HasPrefix(rest, "</"):
			if place, err := o.endTag(); err != api.OK {
				return place, err
			}
		default:
			begun = true
			if place, err := o.startTag(); err != api.OK {
				return place, err
			}
		}
	}
}

// qual answers the name at the place, and whether it is one.
func (o *oracle) qual() (string, bool) {
	q := oracleRun.FindString(o.s[o.at:])
	return q, oracleQual.MatchString(q)
}

func (o *oracle) endTag() (int, api.Errno) {
	first := o.at
	o.at += 2
	q, ok := o.qual()
	if !ok {
		return o.at, api.ErrForm
	}
	if q != o.stack[len(o.stack)-1] {
		return first, api.ErrForm
	}
	o.at += len(q)
	o.at += len(oracleBlanks.FindString(o.s[o.at:]))
	if !strings.HasPrefix(o.s[o.at:], ">") {
		return o.at, api.ErrForm
	}
	o.at++
	o.stack = o.stack[:len(o.stack)-1]
	o.events = append(o.events, "end")
	return 0, api.OK
}

func (o *oracle) startTag() (int, api.Errno) {
	first := o.at
	if len(o.stack) >= 12 || o.count >= 400 {
		return first, api.ErrFull
	}
	o.count++
	o.at++
	q, ok := o.qual()
	if !ok {
		return o.at, api.ErrForm
	}
	o.at += len(q)
	o.events = append(o.events, "begin "+q+" at "+strconv.Itoa(first))
	seen := map[string]bool{}
	for {
		blanks := oracleBlanks.FindString(o.s[o.at:])
		o.at += len(blanks)
		rest := o.s[o.at:]
		switch {
		case strings.HasPrefix(rest, "/>"):
			o.at += 2
			o.events = append(o.events, "end")
			return 0, api.OK
		case strings.HasPrefix(rest, ">"):
			o.at++
			o.stack = append(o.stack, q)
			return 0, api.OK
		case rest == "" || blanks == "" || rest[0] == '/':
			return o.at, api.ErrForm
		case len(seen) == 8:
			return o.at, api.ErrFull
		}
		if place, err := o.attribute(seen); err != api.OK {
			return place, err
		}
	}
}

func (o *oracle) attribute(seen map[string]bool) (int, api.Errno) {
	q, ok := o.qual()
	if !ok || seen[q] {
		return o.at, api.ErrForm
	}
	seen[q] = true
	o.at += len(q)
	if !strings.HasPrefix(o.s[o.at:], "=") {
		return o.at, api.ErrForm
	}
	o.at++
	m := oracleValue.FindStringSubmatch(o.s[o.at:])
	if m == nil {
		return o.at, api.ErrForm
	}
	v, ok := meaning(m[1] + m[2])
	if !ok || len(v) > 60 {
		return o.at, api.ErrForm
	}
	o.at += len(m[0])
	o.events = append(o.events, "attr "+q+" "+strconv.Quote(v))
	return 0, api.OK
}

func allSigns(s string) bool {
	for i, r := range s {
		_, size := utf8.DecodeRuneInString(s[i:])
		wrong := r == utf8.RuneError && size == 1
		if wrong || r < 0x20 && r != 9 && r != 10 && r != 13 || r == 0xfffe || r == 0xffff {
			return false
		}
	}
	return true
}

// meaning is what a value stands for.
func meaning(s string) (string, bool) {
	if !allSigns(s) {
		return "", false
	}
	pieces := strings.Split(s, "&")
	out := pieces[0]
	for _, piece := range pieces[1:] {
		ref, behind, found := strings.Cut(piece, ";")
		if !found || !oracleRef.MatchString(ref) {
			return "", false
		}
		word := map[string]string{"amp": "&", "lt": "<", "gt": ">", "quot": `"`, "apos": "'"}[ref]
		if word == "" {
			digits, base := ref[1:], 10
			if digits[0] == 'x' {
				digits, base = digits[1:], 16
			}
			n, _ := strconv.ParseInt(digits, base, 64)
			if n > 0x10ffff || 0xd800 <= n && n <= 0xdfff || !allSigns(string(rune(n))) {
				return "", false
			}
			word = string(rune(n))
		}
		out += word + behind
	}
	return out, true
}

// eventsOf tells an element as the oracle tells what it has read.
func eventsOf(e api.Elem) []string {
	out := []string{"begin " + e.Name + " at " + strconv.Itoa(e.At)}
	for _, a := range e.Attrs {
		out = append(out, "attr "+a.Name+" "+strconv.Quote(a.Value))
	}
	for _, k := range e.Kids {
		out = append(out, eventsOf(k)...)
	}
	return append(out, "end")
}
