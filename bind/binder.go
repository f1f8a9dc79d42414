package bind

import (
	"slices"

	"sentry/api"
)

// binder is a model that is being bound, element by element, in the order of
// their `<`: so the first fault that is met is the one that is told.
type binder struct {
	model  api.Model
	parent string     // the ID of the Stage in which items stand here
	sentry api.Sentry // the one whose Kids are being bound
	at     int        // the place of the fault
}

// kid is a kind of element that may stand in another one.
type kid struct {
	local string
	turn  int                           // behind it none of an earlier turn may stand
	bind  func(*binder, api.Named) bool // tells whether it has no fault
}

// The tables of what may stand in each kind of element.

func caseKids() []kid {
	return []kid{
		{wordFile, 1, (*binder).file},
		{wordStage, 2, (*binder).plan},
	}
}

func stageKids() []kid {
	return append(itemKids(), []kid{
		{wordStage, 3, (*binder).stage},
		{wordTask, 3, (*binder).task},
		{wordMilestone, 3, (*binder).milestone},
		{wordListener, 3, (*binder).listener},
		{wordTimer, 3, (*binder).timer},
	}...)
}

func itemKids() []kid {
	return []kid{
		{wordEntry, 1, (*binder).entry},
		{wordExit, 2, (*binder).exit},
	}
}

func sentryKids() []kid {
	return []kid{
		{wordOn, 1, (*binder).on},
		{wordIf, 2, (*binder).cond},
	}
}

// fault notes the element that may not be. It tells false, for the one that
// binds it.
func (b *binder) fault(n api.Named) bool {
	b.at = n.At
	return false
}

// kids binds an element's Kids, which are such as the table has them.
func (b *binder) kids(n api.Named, table []kid) bool {
	turn := 0
	for _, k := range n.Kids {
		i := slices.IndexFunc(table, func(x kid) bool { return isOf(k, x.local) })
		if i < 0 || table[i].turn < turn {
			return b.fault(k)
		}
		if !table[i].bind(b, k) {
			return false
		}
		turn = table[i].turn
	}
	return true
}

// isOf tells whether an element is one of a kind.
func isOf(n api.Named, local string) bool {
	return n.Space == Space && n.Local == local
}

// outermost binds the element that stands in no other. That it lacks its stage
// is a fault of its own, ahead of all faults within.
func (b *binder) outermost(n api.Named) bool {
	_, ok := values(n)
	hasPlan := slices.ContainsFunc(n.Kids, func(k api.Named) bool { return isOf(k, wordStage) })
	if !isOf(n, wordCase) || !ok || !hasPlan {
		return b.fault(n)
	}
	return b.kids(n, caseKids())
}

func (b *binder) file(n api.Named) bool {
	v, ok := values(n, attrID)
	if !ok {
		return b.fault(n)
	}
	b.model.Files = append(b.model.Files, v[0])
	return b.kids(n, nil)
}

// plan binds the stage of the case. All items stand in it: if there are some
// already, it is a second one.
func (b *binder) plan(n api.Named) bool {
	if len(b.model.Items) > 0 {
		return b.fault(n)
	}
	return b.stage(n)
}

func (b *binder) stage(n api.Named) bool {
	return b.item(n, api.Stage, stageKids())
}

func (b *binder) task(n api.Named) bool {
	return b.item(n, api.Task, itemKids())
}

func (b *binder) milestone(n api.Named) bool {
	return b.item(n, api.Milestone, itemKids())
}

func (b *binder) listener(n api.Named) bool {
	return b.item(n, api.Listener, itemKids())
}

func (b *binder) timer(n api.Named) bool {
	return b.item(n, api.Timer, itemKids())
}

// item binds an item of a kind.
func (b *binder) item(n api.Named, kind int, table []kid) bool {
	item, ok := itemAlone(n, kind)
	if !ok {
		return b.fault(n)
	}
	outer := b.parent
	item.Parent = outer
	b.model.Items = append(b.model.Items, item)
	b.parent = item.ID
	ok = b.kids(n, table)
	b.parent = outer
	return ok
}

// itemAlone is what an item's attributes say of it.
func itemAlone(n api.Named, kind int) (api.Item, bool) {
	names := []string{attrID}
	if kind == api.Timer {
		names = append(names, attrTicks)
	}
	if attrPlace(n, attrRequired) >= 0 {
		names = append(names, attrRequired)
	}
	v, ok := values(n, names...)
	item := api.Item{ID: v[0], Kind: kind}
	for i, name := range names {
		known := true
		switch name {
		case attrTicks:
			item.Ticks, known = readTicks(v[i])
		case attrRequired:
			item.Required, known = readRequired(v[i])
		}
		ok = ok && known
	}
	return item, ok
}

// last is the item whose sentries are being bound: they stand ahead of all
// items within it, so there is none behind it yet.
func (b *binder) last() *api.Item {
	return &b.model.Items[len(b.model.Items)-1]
}

func (b *binder) entry(n api.Named) bool {
	ok := b.within(n)
	b.last().Entry = append(b.last().Entry, b.sentry)
	return ok
}

func (b *binder) exit(n api.Named) bool {
	ok := b.within(n)
	b.last().Exit = append(b.last().Exit, b.sentry)
	return ok
}

// within binds what stands in a sentry.
func (b *binder) within(n api.Named) bool {
	b.sentry = api.Sentry{}
	if _, ok := values(n); !ok {
		return b.fault(n)
	}
	return b.kids(n, sentryKids())
}

func (b *binder) on(n api.Named) bool {
	v, ok := values(n, attrItem, attrEvent)
	event, known := readEvent(v[1])
	if !ok || !known {
		return b.fault(n)
	}
	b.sentry.On = append(b.sentry.On, api.On{Item: v[0], Event: event})
	return b.kids(n, nil)
}

func (b *binder) cond(n api.Named) bool {
	v, ok := values(n, attrFile, attrOp, attrN)
	op, isOp := readOp(v[1])
	number, isNumber := readN(v[2])
	if !ok || !isOp || !isNumber {
		return b.fault(n)
	}
	b.sentry.If = append(b.sentry.If, api.Cond{File: v[0], Op: op, N: number})
	return b.kids(n, nil)
}
