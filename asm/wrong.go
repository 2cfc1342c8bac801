package asm

import (
	"errors"

	"spindle/api"
)

// wrong is what is wrong: where (a text's line, a module's step, or which of its lists), and the error.
type wrong struct {
	at   int
	code api.Errno
}

func (w *wrong) Error() string { return w.code.Error() }

// told finds again where something is wrong, and what; without an error that is 0 and OK.
func told(err error) (int, api.Errno) {
	var w *wrong
	if errors.As(err, &w) {
		return w.at, w.code
	}
	return 0, api.OK
}
