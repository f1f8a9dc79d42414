package space

import (
	"strings"

	"sentry/api"
)

// plainWithin is Plain of an element that stands in one of the space outer.
// Its At stays nought: it stands in no text yet.
func plainWithin(outer string, n api.Named) api.Elem {
	e := api.Elem{Name: strings.Clone(n.Local)}
	if n.Space != outer {
		e.Attrs = append(e.Attrs, newAttr(declares, n.Space))
	}
	for _, a := range n.Attrs {
		e.Attrs = append(e.Attrs, newAttr(a.Name, a.Value))
	}
	for _, k := range n.Kids {
		e.Kids = append(e.Kids, plainWithin(n.Space, k))
	}
	return e
}

// newAttr is an attribute whose texts are new memory.
func newAttr(name, value string) api.Attr {
	return api.Attr{Name: strings.Clone(name), Value: strings.Clone(value)}
}
