package vcard

import (
	"strings"

	"cardex/api"
)

// Where the next line stands.
const (
	outside = iota
	first
	within
)

// reading is the cards of the lines so far; the last card is open, unless the next line stands outside.
type reading struct {
	place int
	cards list[list[api.Prop]]
}

// take reads the next line, by where it stands.
func (r *reading) take(line string) api.Errno {
	switch {
	case r.place == outside:
		return r.opened(line)
	case r.place == first:
		return r.checked(line)
	case is(line, end):
		r.place = outside
		return api.OK
	}
	p, err := own(line)
	if err != api.OK {
		return err
	}
	return r.cards.last().add(p)
}

// opened begins a card, as line has to.
// Whether there is room for it is asked here, ahead of what is in it.
func (r *reading) opened(line string) api.Errno {
	if !is(line, begin) {
		return api.ErrCard
	}
	r.place = first
	return r.cards.add(list[api.Prop]{most: api.MaxProps})
}

// checked asks whether line says that the card is of the one version that is read.
func (r *reading) checked(line string) api.Errno {
	p, ok := property(line)
	if !ok || p.Name != "VERSION" || p.Value != "4.0" {
		return api.ErrCard
	}
	r.place = within
	return api.OK
}

// told is the cards as they are handed out.
func (r *reading) told() [][]api.Prop {
	var l [][]api.Prop
	for _, card := range r.cards.kept {
		l = append(l, card.kept)
	}
	return l
}

// is tells whether line is mark, in any capitals. (Of the signs beyond ASCII only some fold to a letter of ASCII, to K or S, which no mark has.)
func is(line, mark string) bool { return strings.EqualFold(line, mark) }

// own tells the property that line is, within a card.
func own(line string) (api.Prop, api.Errno) {
	p, ok := property(line)
	if !ok {
		return api.Prop{}, api.ErrLine
	}
	if p.Name == "BEGIN" || p.Name == "VERSION" {
		return api.Prop{}, api.ErrCard
	}
	return p, api.OK
}
