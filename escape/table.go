package escape

// entry is a key of a table, and what stands for it.
type entry[K comparable, V any] struct {
	key   K
	value V
}

// table tells what stands for each of its keys.
type table[K comparable, V any] []entry[K, V]

// find tells what stands for key; the last result is false, if nothing does.
func (t table[K, V]) find(key K) (V, bool) {
	for _, e := range t {
		if e.key == key {
			return e.value, true
		}
	}
	var none V
	return none, false
}

// turned is the table that tells the keys of t by what stands for them.
func turned[K, V comparable](t table[K, V]) table[V, K] {
	back := make(table[V, K], 0, len(t))
	for _, e := range t {
		back = append(back, entry[V, K]{e.value, e.key})
	}
	return back
}

// signs tells what is written, between "&" and ";", for each sign.
func signs() table[byte, string] {
	return table[byte, string]{
		{'&', "amp"},
		{'<', "lt"},
		{'>', "gt"},
		{'"', "quot"},
		{'\'', "apos"},
		{'\t', "#9"},
		{'\n', "#10"},
		{'\r', "#13"},
	}
}
