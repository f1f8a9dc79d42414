package gsm

import (
	"slices"

	"sentry/api"
)

// isOver tells whether a flag is up behind which nothing happens any more.
func (m *Machine) isOver() bool {
	return slices.ContainsFunc(m.p.over, m.Up)
}

// user has an event happen from without, if a User of it may now.
func (m *Machine) user(item string, event int) api.Errno {
	there := false
	for _, u := range m.p.users {
		if u.Item != item {
			continue
		}
		there = true
		if u.Event == event && m.now.hold(u.While) {
			return m.fromWithout(m.next(), u.Then)
		}
	}
	if !there {
		return api.ErrArg
	}
	return api.ErrState
}

// write has a number of the file be another one.
func (m *Machine) write(file string, n int) api.Errno {
	i := slices.Index(m.p.files, file)
	if i < 0 || n < -api.MaxN || n > api.MaxN {
		return api.ErrArg
	}
	s := m.next()
	s.numbers[i] = n
	return m.rest(s)
}

// tick has one tick go by.
func (m *Machine) tick() api.Errno {
	s := m.next()
	var due []int
	for i, c := range m.p.counters {
		if !s.flags[c.While] {
			s.counts[i] = 0
			continue
		}
		// One beyond Limit is as much as it need tell: it came to it once.
		s.counts[i] = min(s.counts[i], c.Limit) + 1
		if s.counts[i] == c.Limit {
			due = append(due, c.Then)
		}
	}
	if len(due) > 0 {
		return m.fromWithout(s, due...)
	}
	return m.rest(s)
}

// fromWithout puts flags up, and goes on behind a round from the stratum for it.
func (m *Machine) fromWithout(s state, flags ...int) api.Errno {
	for _, flag := range flags {
		s.flags[flag] = true
	}
	m.p.round(s, m.p.from)
	return m.rest(s)
}

// rest goes on from another state than now.
func (m *Machine) rest(s state) api.Errno {
	if !m.goOn(s) {
		return api.ErrFull
	}
	return api.OK
}
