package link

import (
	"errors"

	"spindle/api"
)

// wrong is what is wrong: of which name, if of one, and the error.
type wrong struct {
	name string
	code api.Errno
}

func (w *wrong) Error() string { return w.code.Error() }

// told finds again of which name something is wrong, and what; without an error that is the empty name and OK.
func told(err error) (string, api.Errno) {
	var w *wrong
	if errors.As(err, &w) {
		return w.name, w.code
	}
	return "", api.OK
}
