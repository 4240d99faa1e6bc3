package jid

import (
	"cardex/api"
)

// gathered is a whole that its parts are put into one by one, or else the error of the first part that is wrong.
type gathered[W any] struct {
	whole W
	err   api.Errno
}

// add puts part into the whole, as keep has it.
// Once a part is wrong, no other one is looked at: its error is the one that counts, and nothing is told beside it.
func (g *gathered[W]) add(part string, keep func(part string) (string, api.Errno), put func(whole *W, kept string)) {
	if g.err != api.OK {
		return
	}
	kept, err := keep(part)
	if err != api.OK {
		*g = gathered[W]{err: err}
		return
	}
	put(&g.whole, kept)
}

// sized keeps a part as keep does, if it has 1 to most bytes then: how long a part is, is asked of what is kept.
func sized(keep func(part string) (string, api.Errno), most int) func(part string) (string, api.Errno) {
	return func(part string) (string, api.Errno) {
		kept, err := keep(part)
		if err != api.OK {
			return "", err
		}
		if kept == "" || len(kept) > most {
			return "", api.ErrJid
		}
		return kept, api.OK
	}
}
