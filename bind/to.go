package bind

import (
	"strconv"
	"strings"

	"sentry/api"
	"sentry/model"
)

// element is an element. Its At stays nought: it stands in no text yet.
func element(local string, kids []api.Named, attrs ...api.Attr) api.Named {
	return api.Named{Space: Space, Local: local, Attrs: attrs, Kids: kids}
}

// attr is an attribute whose value is new memory.
func attr(name, value string) api.Attr {
	return api.Attr{Name: name, Value: strings.Clone(value)}
}

// itemElement is the item at a place, with all that stands in it.
func itemElement(m api.Model, place int) api.Named {
	item := m.Items[place]
	attrs := []api.Attr{attr(attrID, item.ID)}
	if item.Required {
		attrs = append(attrs, attr(attrRequired, valueTrue))
	}
	if item.Kind == api.Timer {
		attrs = append(attrs, attr(attrTicks, strconv.Itoa(item.Ticks)))
	}
	kids := sentryElements(nil, wordEntry, item.Entry)
	kids = sentryElements(kids, wordExit, item.Exit)
	for _, at := range model.Kids(m, item.ID) {
		kids = append(kids, itemElement(m, at))
	}
	return element(kindWord(item.Kind), kids, attrs...)
}

// sentryElements puts elements of an item's sentries behind others.
func sentryElements(kids []api.Named, local string, row []api.Sentry) []api.Named {
	for _, s := range row {
		kids = append(kids, sentryElement(local, s))
	}
	return kids
}

func sentryElement(local string, s api.Sentry) api.Named {
	var kids []api.Named
	for _, on := range s.On {
		kids = append(kids, element(wordOn, nil, attr(attrItem, on.Item), attr(attrEvent, eventWord(on.Event))))
	}
	for _, c := range s.If {
		kids = append(kids, element(wordIf, nil, attr(attrFile, c.File), attr(attrOp, opWord(c.Op)), attr(attrN, strconv.Itoa(c.N))))
	}
	return element(local, kids)
}
