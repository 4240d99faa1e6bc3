package vcard

import (
	"slices"
	"strings"

	"cardex/api"
	"cardex/utf"
)

const (
	quote = `"`
	// marks are what a parameter's Value has in it only between quotes.
	marks = ";:,"
	// signs are what a word is made of.
	signs = "ABCDEFGHIJKLMNOPQRSTUVWXYZabcdefghijklmnopqrstuvwxyz0123456789-"
)

// property tells the property whose line is line; the last result is false, if it is none's.
func property(line string) (api.Prop, bool) {
	group, name, rest := names(line)
	params, rest, right := parameters(rest)
	value, ended := strings.CutPrefix(rest, ":")
	if name == "" || !right || !ended {
		return api.Prop{}, false
	}
	return api.Prop{Group: group, Name: strings.ToUpper(name), Params: params, Value: value}, true
}

// names tells the Group and the Name that line begins with, as they stand ("", if there is none), and what is behind them.
func names(line string) (group, name, rest string) {
	first, rest := word(line)
	behind, grouped := strings.CutPrefix(rest, ".")
	if first == "" || !grouped {
		return "", first, rest
	}
	name, rest = word(behind)
	return first, name, rest
}

// parameters tells the parameters that s begins with, and what is behind them; the last result is false, if one is begun that is none.
func parameters(s string) ([]api.Attr, string, bool) {
	var l []api.Attr
	for {
		behind, another := strings.CutPrefix(s, ";")
		if !another {
			return l, s, true
		}
		a, rest, ok := parameter(behind)
		if !ok {
			return nil, "", false
		}
		l = append(l, a)
		s = rest
	}
}

// parameter tells the parameter that s begins with, and what is behind it.
func parameter(s string) (api.Attr, string, bool) {
	name, rest := word(s)
	behind, ok := strings.CutPrefix(rest, "=")
	if !ok || name == "" {
		return api.Attr{}, "", false
	}
	value, rest, ok := firstValue(behind)
	return api.Attr{Name: strings.ToUpper(name), Value: value}, rest, ok
}

// firstValue tells the Value of a parameter that s begins with, and what is behind it. Without quotes there is always one, of no bytes if need be.
func firstValue(s string) (string, string, bool) {
	if rest, quoted := strings.CutPrefix(s, quote); quoted {
		return strings.Cut(rest, quote)
	}
	at := strings.IndexAny(s, quote+marks)
	if at < 0 {
		at = len(s)
	}
	return s[:at], s[at:], true
}

// word tells the word that s begins with ("", if there is none), and what is behind it.
func word(s string) (string, string) {
	rest := strings.TrimLeft(s, signs)
	return s[:len(s)-len(rest)], rest
}

// lineOf is the line of p, be it one that is read or not.
func lineOf(p api.Prop) string {
	var b strings.Builder
	if p.Group != "" {
		b.WriteString(p.Group + ".")
	}
	b.WriteString(p.Name)
	for _, a := range p.Params {
		value := a.Value
		if value == "" || strings.ContainsAny(value, marks) {
			value = quote + value + quote
		}
		b.WriteString(";" + a.Name + "=" + value)
	}
	b.WriteString(":" + p.Value)
	return b.String()
}

// comesBack tells whether line, within a card, is read as p.
func comesBack(line string, p api.Prop) bool {
	if !utf.Valid(line) || strings.ContainsAny(line, "\r\n") || is(line, end) {
		return false
	}
	read, err := own(line)
	return err == api.OK && read.Group == p.Group && read.Name == p.Name && read.Value == p.Value && slices.Equal(read.Params, p.Params)
}
