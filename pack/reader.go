package pack

import "sentry/api"

// reader takes a model from the bytes that are left. Behind a fault nothing is
// left, so that every number is nought and every row has an end.
type reader struct {
	rest  []byte
	fault bool
	files []string
	ids   []string
}

func (r *reader) fail() {
	r.rest, r.fault = nil, true
}

func (r *reader) all() api.Model {
	// A row's length is bound by what a model may have, not by what is
	// written: that could be any number.
	texts := readRow(r, api.MaxFiles+api.MaxItems, r.text)
	files := r.number(len(texts))
	r.files, r.ids = texts[:files], texts[files:]
	m := api.Model{Files: r.files}
	for _, id := range r.ids {
		m.Items = append(m.Items, r.item(id))
	}
	return m
}

// number is the next number; a fault, if there is none, or one above most.
func (r *reader) number(most int) int {
	n := 0
	// It has no more bytes than most takes, which is one at least.
	for shift := 0; (shift == 0 || most>>shift > 0) && len(r.rest) > 0; shift += 7 {
		x := r.rest[0]
		r.rest = r.rest[1:]
		n |= int(x&127) << shift
		if x >= 128 {
			continue
		}
		if n > most {
			break
		}
		return n
	}
	r.fail()
	return 0
}

func (r *reader) text() string {
	length := r.number(api.MaxName)
	if length > len(r.rest) {
		r.fail()
		return ""
	}
	s := string(r.rest[:length])
	r.rest = r.rest[length:]
	return s
}

// oneOf is the text at the place that is next.
func (r *reader) oneOf(texts []string) string {
	place := r.number(len(texts) - 1)
	if r.fault {
		return ""
	}
	return texts[place]
}

// readRow is a row of as many as the next number says, at most so many.
func readRow[T any](r *reader, most int, one func() T) []T {
	var row []T
	for range r.number(most) {
		row = append(row, one())
	}
	return row
}

func (r *reader) item(id string) api.Item {
	item := api.Item{ID: id}
	item.Kind = r.number(api.Timer)
	item.Parent = r.parent()
	item.Required = r.number(1) == 1
	item.Ticks = r.number(api.MaxTicks)
	item.Entry = readRow(r, api.MaxSentries, r.sentry)
	item.Exit = readRow(r, api.MaxSentries, r.sentry)
	return item
}

func (r *reader) parent() string {
	place := r.number(len(r.ids))
	if place == 0 {
		return ""
	}
	return r.ids[place-1]
}

func (r *reader) sentry() api.Sentry {
	var s api.Sentry
	s.On = readRow(r, api.MaxOn, r.on)
	s.If = readRow(r, api.MaxIf, r.cond)
	return s
}

func (r *reader) on() api.On {
	var on api.On
	on.Item = r.oneOf(r.ids)
	on.Event = r.number(api.Exit)
	return on
}

func (r *reader) cond() api.Cond {
	var c api.Cond
	c.File = r.oneOf(r.files)
	c.Op = r.oneOf(ops())
	c.N = unfold(r.number(fold(api.MaxN)))
	return c
}
