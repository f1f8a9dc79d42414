package bind

import (
	"slices"
	"strings"

	"sentry/api"
)

// The elements.
const (
	wordCase      = "case"
	wordFile      = "file"
	wordStage     = "stage"
	wordTask      = "task"
	wordMilestone = "milestone"
	wordListener  = "listener"
	wordTimer     = "timer"
	wordEntry     = "entry"
	wordExit      = "exit"
	wordOn        = "on"
	wordIf        = "if"
)

// The attributes.
const (
	attrID       = "id"
	attrRequired = "required"
	attrTicks    = "ticks"
	attrItem     = "item"
	attrEvent    = "event"
	attrFile     = "file"
	attrOp       = "op"
	attrN        = "n"
)

// The values of attrRequired.
const (
	valueTrue  = "true"
	valueFalse = "false"
)

// How many digits a number has at most. They let through more than a model may
// have: that is the model's fault, not the element's.
const (
	ticksDigits = 3
	nDigits     = 7
)

// kindWords are the elements that are items, and their kinds.
var kindWords = [...]struct {
	word string
	kind int
}{
	{wordStage, api.Stage},
	{wordTask, api.Task},
	{wordMilestone, api.Milestone},
	{wordListener, api.Listener},
	{wordTimer, api.Timer},
}

// eventWords are the values of attrEvent.
var eventWords = [...]struct {
	word  string
	event int
}{
	{"create", api.Create},
	{"start", api.Start},
	{"complete", api.Complete},
	{"occur", api.Occur},
	{"exit", api.Exit},
}

// opWords are the values of attrOp.
var opWords = [...]struct{ word, op string }{
	{"lt", "<"},
	{"le", "<="},
	{"eq", "="},
	{"ne", "!="},
	{"ge", ">="},
	{"gt", ">"},
}

// kindWord is the element of items of a kind; nothing, if there is none.
func kindWord(kind int) string {
	for _, w := range kindWords {
		if w.kind == kind {
			return w.word
		}
	}
	return ""
}

// eventWord is the value that stands for an event; nothing, if there is none.
func eventWord(event int) string {
	for _, w := range eventWords {
		if w.event == event {
			return w.word
		}
	}
	return ""
}

// opWord is the value that stands for an op; nothing, if there is none.
func opWord(op string) string {
	for _, w := range opWords {
		if w.op == op {
			return w.word
		}
	}
	return ""
}

// values are those of the attributes of these names, in the names' order;
// false, if one of these lacks, one stands twice, or there is another one.
func values(n api.Named, names ...string) ([]string, bool) {
	row := make([]string, len(names))
	for i, name := range names {
		at := attrPlace(n, name)
		if at < 0 {
			return row, false
		}
		row[i] = n.Attrs[at].Value
	}
	// All names are there: with one that stands twice, or another one, there
	// were more attributes than names.
	return row, len(n.Attrs) == len(names)
}

// attrPlace is where the first attribute of that name stands; -1.
func attrPlace(n api.Named, name string) int {
	return slices.IndexFunc(n.Attrs, func(a api.Attr) bool { return a.Name == name })
}

// readTicks is what a value of attrTicks stands for.
func readTicks(s string) (int, bool) {
	return readAbove(s, ticksDigits)
}

// readN is what a value of attrN stands for.
func readN(s string) (int, bool) {
	if s == "0" {
		return 0, true
	}
	digits, below := strings.CutPrefix(s, "-")
	n, ok := readAbove(digits, nDigits)
	if below {
		n = -n
	}
	return n, ok
}

// readAbove is a number above nought of at most that many digits.
func readAbove(s string, most int) (int, bool) {
	if s == "" || len(s) > most || s[0] == '0' {
		return 0, false
	}
	n := 0
	for _, c := range []byte(s) {
		if c < '0' || c > '9' {
			return 0, false
		}
		n = n*10 + int(c-'0')
	}
	return n, true
}

// readEvent is what a value of attrEvent stands for.
func readEvent(s string) (int, bool) {
	for _, w := range eventWords {
		if w.word == s {
			return w.event, true
		}
	}
	return 0, false
}

// readOp is what a value of attrOp stands for.
func readOp(s string) (string, bool) {
	for _, w := range opWords {
		if w.word == s {
			return w.op, true
		}
	}
	return "", false
}

// readRequired is what a value of attrRequired stands for.
func readRequired(s string) (bool, bool) {
	return s == valueTrue, s == valueTrue || s == valueFalse
}
