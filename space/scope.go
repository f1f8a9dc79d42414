package space

import (
	"strings"

	"sentry/api"
	"sentry/name"
)

// scope is which spaces are named where an element stands. It is one for a
// whole tree: what an element names is taken back behind its end, so that a
// prefix is found at once, however many elements stand round it.
type scope struct {
	spaces map[string]binding // by prefix; that of names without one stands at nothing
	hidden []hiding           // what holds again behind elements that have begun, the innermost last
}

// binding is a space that is named, or (not known) none.
type binding struct {
	space string
	known bool
}

// hiding is what a prefix was bound to, ahead of what it is bound to now.
type hiding struct {
	prefix string
	was    binding
}

// outside is the scope in which the outermost element stands.
func outside() *scope {
	return &scope{spaces: map[string]binding{"": {known: true}}}
}

// resolve resolves an element's names, and those within.
func (s *scope) resolve(e api.Elem) (api.Named, int, api.Errno) {
	depth := len(s.hidden)
	// Attributes come first: they may name the space of their own element.
	attrs, ok := s.enter(e.Attrs)
	prefix, local := name.Split(e.Name)
	// The prefix xmlns needs no question of its own: it is never declared.
	found := s.spaces[prefix]
	if !ok || !found.known {
		return api.Named{}, e.At, api.ErrSpace
	}
	n := api.Named{Space: found.space, Local: strings.Clone(local), Attrs: attrs, At: e.At}
	for _, k := range e.Kids {
		kid, at, err := s.resolve(k)
		if err != api.OK {
			return api.Named{}, at, err
		}
		n.Kids = append(n.Kids, kid)
	}
	s.leave(depth)
	return n, 0, api.OK
}

// enter declares what an element's attributes name, and is its other
// attributes; false, if one of them may not be.
func (s *scope) enter(attrs []api.Attr) ([]api.Attr, bool) {
	var others []api.Attr
	for _, a := range attrs {
		prefix, local := name.Split(a.Name)
		switch {
		case a.Name == declares:
			s.declare("", a.Value)
		case prefix == "":
			others = append(others, newAttr(a.Name, a.Value))
		case prefix == declares && mayDeclare(local, a.Value):
			s.declare(local, a.Value)
		default:
			return nil, false
		}
	}
	return others, true
}

// declare binds a prefix to a space, until it is left.
func (s *scope) declare(prefix, space string) {
	s.hidden = append(s.hidden, hiding{prefix: prefix, was: s.spaces[prefix]})
	s.spaces[prefix] = binding{space: strings.Clone(space), known: true}
}

// leave takes back what was declared behind the first depth that are hidden:
// the last first, since of two of one prefix the second hides the first.
func (s *scope) leave(depth int) {
	for len(s.hidden) > depth {
		last := s.hidden[len(s.hidden)-1]
		s.hidden = s.hidden[:len(s.hidden)-1]
		s.spaces[last.prefix] = last.was
	}
}

// mayDeclare tells whether a prefix may be bound to a space.
func mayDeclare(prefix, space string) bool {
	return space != "" && prefix != "xml" && prefix != declares
}
