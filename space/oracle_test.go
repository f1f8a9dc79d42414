package space_test

import (
	"math/rand"
	"strings"

	"sentry/api"
)

// The oracle keeps nothing: for each name it looks outward, from the element
// to those it stands in, and in each from the last attribute to the first.
// It tells all faults ahead of all names.

// spaceAt is the space of a prefix in the last element of a path, and whether it is known.
func spaceAt(path []api.Elem, prefix string) (string, bool) {
	asked := "xmlns"
	if prefix != "" {
		asked += ":" + prefix
	}
	for i := len(path) - 1; i >= 0; i-- {
		for j := len(path[i].Attrs) - 1; j >= 0; j-- {
			if path[i].Attrs[j].Name == asked {
				return path[i].Attrs[j].Value, true
			}
		}
	}
	return "", prefix == ""
}

// halves are what stands ahead of a colon and behind it.
func halves(s string) (string, string) {
	if i := strings.IndexByte(s, ':'); i >= 0 {
		return s[:i], s[i+1:]
	}
	return "", s
}

// faulty tells whether the last element of a path may not be.
func faulty(path []api.Elem) bool {
	e := path[len(path)-1]
	prefix, _ := halves(e.Name)
	_, known := spaceAt(path, prefix)
	wrong := !known || prefix == "xmlns"
	for _, a := range e.Attrs {
		p, declared := halves(a.Name)
		wrong = wrong || p != "" && p != "xmlns"
		wrong = wrong || p == "xmlns" && (a.Value == "" || declared == "xml" || declared == "xmlns")
	}
	return wrong
}

// faultsIn are the At of all elements that may not be, in the order of their `<`.
func faultsIn(path []api.Elem) []int {
	e := path[len(path)-1]
	var out []int
	if faulty(path) {
		out = append(out, e.At)
	}
	for _, k := range e.Kids {
		out = append(out, faultsIn(append(path[:len(path):len(path)], k))...)
	}
	return out
}

// namedIn is the last element of a path, resolved.
func namedIn(path []api.Elem) api.Named {
	e := path[len(path)-1]
	prefix, local := halves(e.Name)
	found, _ := spaceAt(path, prefix)
	n := api.Named{Space: found, Local: local, At: e.At}
	for _, a := range e.Attrs {
		if a.Name != "xmlns" && !strings.HasPrefix(a.Name, "xmlns:") {
			n.Attrs = append(n.Attrs, a)
		}
	}
	for _, k := range e.Kids {
		n.Kids = append(n.Kids, namedIn(append(path[:len(path):len(path)], k)))
	}
	return n
}

// asked is what Resolve must answer.
func asked(e api.Elem) (api.Named, int, api.Errno) {
	path := []api.Elem{e}
	if faults := faultsIn(path); len(faults) > 0 {
		return api.Named{}, faults[0], api.ErrSpace
	}
	return namedIn(path), 0, api.OK
}

// pick is one of some texts.
func pick(r *rand.Rand, from ...string) string {
	return from[r.Intn(len(from))]
}

// grown is a tree of at most left elements. Names stand twice in it, spaces
// are hidden and named again; one in wrong of its parts may be none that may be.
func grown(r *rand.Rand, left *int, wrong int) api.Elem {
	*left--
	e := api.Elem{Name: pick(r, "a", "a", "b", "xmlns", "xml", "p:a", "q:a", "p:xmlns"), At: r.Intn(2000) - 1000}
	if r.Intn(wrong) == 0 {
		e.Name = pick(r, "z:a", "xmlns:a", "xml:a", "u:a")
	}
	for range r.Intn(4) {
		e.Attrs = append(e.Attrs, grownAttr(r, wrong))
	}
	for *left > 0 && r.Intn(4) > 0 {
		e.Kids = append(e.Kids, grown(r, left, wrong))
	}
	return e
}

func grownAttr(r *rand.Rand, wrong int) api.Attr {
	if r.Intn(wrong) == 0 {
		return api.Attr{Name: pick(r, "p:x", "z:x", "xml:x", "p:xmlns", "xmlns:p", "xmlns:xml", "xmlns:xmlns"), Value: pick(r, "", "", "u")}
	}
	switch r.Intn(4) {
	case 0:
		return api.Attr{Name: "xmlns", Value: pick(r, "", "u", "v", "p")}
	case 1, 2:
		return api.Attr{Name: pick(r, "xmlns:p", "xmlns:q"), Value: pick(r, "u", "v", "p", "xmlns")}
	}
	return api.Attr{Name: pick(r, "x", "y", "xml", "XMLNS", "xmlnsx", "p"), Value: pick(r, "", "u", "p:a")}
}

// rooted is a grown tree whose prefixes p and q are known everywhere.
func rooted(r *rand.Rand, wrong int) api.Elem {
	left := 1 + r.Intn(14)
	e := grown(r, &left, wrong)
	e.Attrs = append([]api.Attr{{Name: "xmlns:p", Value: "u"}, {Name: "xmlns:q", Value: "w"}}, e.Attrs...)
	return e
}
