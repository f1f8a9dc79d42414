package pack

import (
	"slices"

	"sentry/api"
	"sentry/model"
)

// writer puts a model that may be behind what is written.
type writer struct {
	model api.Model
	out   []byte
}

func (w *writer) all() {
	w.number(len(w.model.Files) + len(w.model.Items))
	for _, file := range w.model.Files {
		w.text(file)
	}
	for _, item := range w.model.Items {
		w.text(item.ID)
	}
	w.number(len(w.model.Files))
	for _, item := range w.model.Items {
		w.item(item)
	}
}

func (w *writer) number(n int) {
	for ; n >= 128; n >>= 7 {
		w.out = append(w.out, byte(n)|128)
	}
	w.out = append(w.out, byte(n))
}

func (w *writer) text(s string) {
	w.number(len(s))
	w.out = append(w.out, s...)
}

func (w *writer) item(item api.Item) {
	w.number(item.Kind)
	// Place is -1 of nothing, so this is the 0 of an item without a Parent.
	w.number(model.Place(w.model, item.Parent) + 1)
	if item.Required {
		w.number(1)
	} else {
		w.number(0)
	}
	w.number(item.Ticks)
	w.sentries(item.Entry)
	w.sentries(item.Exit)
}

func (w *writer) sentries(row []api.Sentry) {
	w.number(len(row))
	for _, s := range row {
		w.sentry(s)
	}
}

func (w *writer) sentry(s api.Sentry) {
	w.number(len(s.On))
	for _, on := range s.On {
		w.number(model.Place(w.model, on.Item))
		w.number(on.Event)
	}
	w.number(len(s.If))
	for _, c := range s.If {
		w.number(slices.Index(w.model.Files, c.File))
		w.number(slices.Index(ops(), c.Op))
		w.number(fold(c.N))
	}
}
