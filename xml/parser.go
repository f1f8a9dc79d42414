package xml

import (
	"slices"
	"strings"
	"unicode/utf8"

	"sentry/api"
	"sentry/name"
)

// The beginnings that tell a remark and an end tag from an element.
const (
	remarkBegins = "<!--"
	endTagBegins = "</"
)

// part reads a part of the text and tells whether it stood there as it must.
// The parts are a parser's methods, as values: what may stand at a place is
// handed on as the part that reads it.
type part func() bool

// parser is a text that is being read.
type parser struct {
	text      string
	at        int        // the place of what is read next; of the fault, once there is one
	err       api.Errno  // the fault
	open      []api.Elem // the elements whose end is still to come, the innermost last
	elems     int        // how many elements have begun
	outermost api.Elem   // the element that stands in no other, once it has ended
}

// inTurn reads parts that stand one behind the other.
func (p *parser) inTurn(parts ...part) bool {
	for _, read := range parts {
		if !read() {
			return false
		}
	}
	return true
}

// repeat reads parts as long as next finds one.
func (p *parser) repeat(next func() part) bool {
	for read := next(); read != nil; read = next() {
		if !read() {
			return false
		}
	}
	return true
}

// fail notes the fault. It tells false, for the part that had it.
func (p *parser) fail(place int, err api.Errno) bool {
	p.at, p.err = place, err
	return false
}

// ahead tells whether s stands at the place.
func (p *parser) ahead(s string) bool {
	return strings.HasPrefix(p.text[p.at:], s)
}

// must reads s.
func (p *parser) must(s string) bool {
	if !p.ahead(s) {
		return p.fail(p.at, api.ErrForm)
	}
	p.at += len(s)
	return true
}

// end is the end of the text.
func (p *parser) end() bool {
	if p.at < len(p.text) {
		return p.fail(p.at, api.ErrForm)
	}
	return true
}

// around is what stands round the outermost element.
func (p *parser) around() bool {
	return p.repeat(p.nextAround)
}

// within is what stands between an element's tags.
func (p *parser) within() bool {
	return p.repeat(p.nextWithin)
}

// attributes are those of a tag, and the blanks behind them.
func (p *parser) attributes() bool {
	return p.repeat(p.nextInTag)
}

// nextAround finds a blank or a remark.
func (p *parser) nextAround() part {
	switch {
	case p.blankAhead():
		return p.blanks
	case p.ahead(remarkBegins):
		return p.remark
	}
	return nil
}

// nextWithin finds a blank, a remark or an element.
func (p *parser) nextWithin() part {
	if found := p.nextAround(); found != nil {
		return found
	}
	if p.ahead("<") && !p.ahead(endTagBegins) {
		return p.element
	}
	return nil
}

// nextInTag finds an attribute with the blanks ahead of it, or blanks alone.
func (p *parser) nextInTag() part {
	if p.blankAhead() {
		return p.spacedAttribute
	}
	return nil
}

// blankAhead tells whether a blank stands at the place.
func (p *parser) blankAhead() bool {
	return p.ahead(" ") || p.ahead("\t") || p.ahead("\n") || p.ahead("\r")
}

// blanks reads all blanks that stand at the place.
func (p *parser) blanks() bool {
	for p.blankAhead() {
		p.at++
	}
	return true
}

// remark reads a remark, whose beginning stands at the place.
func (p *parser) remark() bool {
	inner, rest, found := strings.Cut(p.text[p.at+len(remarkBegins):], "--")
	if !found || !strings.HasPrefix(rest, ">") || !signs(inner) {
		return p.fail(p.at, api.ErrForm)
	}
	p.at = len(p.text) - len(rest) + len(">")
	return true
}

// element reads an element with all that stands in it.
func (p *parser) element() bool {
	return p.inTurn(p.begin, p.elementName, p.attributes, p.rest)
}

// begin reads an element's first byte.
func (p *parser) begin() bool {
	place := p.at
	if !p.must("<") {
		return false
	}
	if len(p.open) == api.MaxDeep || p.elems == api.MaxElems {
		return p.fail(place, api.ErrFull)
	}
	p.elems++
	p.open = append(p.open, api.Elem{At: place})
	return true
}

// elementName reads the name of the innermost element.
func (p *parser) elementName() bool {
	found, ok := p.qual()
	if !ok {
		return false
	}
	p.innermost().Name = found
	return true
}

// spacedAttribute reads blanks, and an attribute, unless the tag ends there.
func (p *parser) spacedAttribute() bool {
	p.blanks()
	if p.at == len(p.text) || p.ahead("/") || p.ahead(">") {
		return true
	}
	return p.attribute()
}

// attribute reads an attribute of the innermost element.
func (p *parser) attribute() bool {
	e, place := p.innermost(), p.at
	if len(e.Attrs) == api.MaxAttrs {
		return p.fail(place, api.ErrFull)
	}
	found, ok := p.qual()
	if !ok {
		return false
	}
	if slices.ContainsFunc(e.Attrs, func(a api.Attr) bool { return a.Name == found }) {
		return p.fail(place, api.ErrForm)
	}
	if !p.must("=") {
		return false
	}
	value, ok := p.value()
	if !ok {
		return false
	}
	e.Attrs = append(e.Attrs, api.Attr{Name: found, Value: value})
	return true
}

// rest reads what stands behind an element's attributes.
func (p *parser) rest() bool {
	if p.ahead("/>") {
		p.at += len("/>")
		return p.shut()
	}
	return p.must(">") && p.inTurn(p.within, p.endTag, p.shut)
}

// endTag reads the end tag of the innermost element.
func (p *parser) endTag() bool {
	place := p.at
	if !p.must(endTagBegins) {
		return false
	}
	found, ok := p.qual()
	if !ok {
		return false
	}
	if found != p.innermost().Name {
		return p.fail(place, api.ErrForm)
	}
	p.blanks()
	return p.must(">")
}

// shut ends the innermost element, and puts it where it stands.
func (p *parser) shut() bool {
	e := *p.innermost()
	p.open = p.open[:len(p.open)-1]
	if len(p.open) == 0 {
		p.outermost = e
		return true
	}
	parent := p.innermost()
	parent.Kids = append(parent.Kids, e)
	return true
}

// innermost is the last element that has begun and not ended. It is asked
// anew behind each beginning, since elements move as more of them open.
func (p *parser) innermost() *api.Elem {
	return &p.open[len(p.open)-1]
}

// qual reads a name, with a prefix or without.
func (p *parser) qual() (string, bool) {
	end := p.at
	for end < len(p.text) && inQual(p.text[end:end+1]) {
		end++
	}
	found := p.text[p.at:end]
	if !name.IsQual(found) {
		return "", p.fail(p.at, api.ErrForm)
	}
	p.at = end
	// A piece of the text would keep all of it for as long as the name lasts.
	return strings.Clone(found), true
}

// value reads a value with its quotes.
func (p *parser) value() (string, bool) {
	if !p.ahead(`"`) && !p.ahead(`'`) {
		return "", p.fail(p.at, api.ErrForm)
	}
	begin := p.at + 1
	inner, _, found := strings.Cut(p.text[begin:], p.text[p.at:begin])
	if !found || strings.Contains(inner, "<") {
		return "", p.fail(p.at, api.ErrForm)
	}
	value, ok := name.Unescape(inner)
	if !ok || len(value) > api.MaxValue {
		return "", p.fail(p.at, api.ErrForm)
	}
	p.at = begin + len(inner) + 1
	return value, true
}

// inQual tells whether c, of one byte, may stand in a name or between two.
func inQual(c string) bool {
	return c == ":" || name.Is("_"+c)
}

// signs tells whether s is valid UTF-8 of signs.
func signs(s string) bool {
	return utf8.ValidString(s) && !strings.ContainsFunc(s, func(r rune) bool { return !name.Char(r) })
}
