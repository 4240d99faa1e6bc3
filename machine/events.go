package machine

import (
	"cardex/api"
)

// events are what one does, and what comes.
func events() table[int, api.Mode] {
	return table[int, api.Mode]{
		{api.Subscribe, ask},
		{api.Unsubscribe, leave},
		{api.Subscribed, let},
		{api.Unsubscribed, refuse},
		{api.InSubscribe, wait},
		{api.InUnsubscribe, lose},
		{api.InSubscribed, see},
		// Whoever ends it, one sees no more.
		{api.InUnsubscribed, leave},
	}
}

// ask asks for what is not there yet.
func ask(m api.Mode) api.Mode {
	if !m.To {
		m.Ask = true
	}
	return m
}

// leave sees no more, and asks no more.
func leave(m api.Mode) api.Mode {
	m.To, m.Ask = false, false
	return m
}

// let lets the one who waits; without one, whoever comes later is let ahead.
func let(m api.Mode) api.Mode {
	switch {
	case m.In:
		m.From, m.In = true, false
	case !m.From:
		m.Approved = true
	}
	return m
}

// refuse lets nobody, and nobody who comes later.
func refuse(m api.Mode) api.Mode {
	m = lose(m)
	m.Approved = false
	return m
}

// wait has one more who waits, unless that one was let already, or ahead.
func wait(m api.Mode) api.Mode {
	switch {
	case m.From:
	case m.Approved:
		m.From, m.Approved = true, false
	default:
		m.In = true
	}
	return m
}

// lose has nobody who sees, or waits. What was let ahead stays: it was not the other one who said so.
func lose(m api.Mode) api.Mode {
	m.From, m.In = false, false
	return m
}

// see sees what was asked for. What was not asked for is not taken.
func see(m api.Mode) api.Mode {
	if m.Ask {
		m.To, m.Ask = true, false
	}
	return m
}
