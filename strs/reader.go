package strs

import (
	"bytes"

	"spindle/api"
)

// Read: chapter 8.
func Read(b []byte) (*Table, int, api.Errno) {
	if len(b) == 0 || b[0] != 0 {
		return nil, 0, api.ErrStrsForm
	}
	t := New()
	for t.size() < len(b) {
		place := t.size()
		name := nameAt(b[place:])
		if _, twice := t.places[string(name)]; twice || len(name) == 0 {
			return nil, place, api.ErrStrsForm
		}
		t.push(string(name))
	}
	return t, 0, api.OK
}

// nameAt gives the name that b begins with, nothing where there is none. It looks no further than a name and its 0 reach, so that a long run without a 0 costs nothing.
func nameAt(b []byte) []byte {
	end := bytes.IndexByte(b[:min(len(b), api.MaxName+1)], 0)
	return b[:max(end, 0)]
}
