package strs

import (
	"strings"

	"spindle/api"
)

// plain is a table by the chapter's words alone: the names in their order; all else is found anew each time.
type plain []string

func plainName(name string) bool {
	if len(name) < 1 || len(name) > 64 {
		return false
	}
	for k := range len(name) {
		if name[k] == 0 {
			return false
		}
	}
	return true
}

func (p plain) bytes() string {
	text := "\x00"
	for _, name := range p {
		text += name + "\x00"
	}
	return text
}

func (p plain) place(name string) int {
	ahead := 1
	for _, other := range p {
		if other == name {
			return ahead
		}
		ahead += len(other) + 1
	}
	return 0
}

func (p plain) has(name string) bool {
	return p.place(name) > 0
}

// add gives the table as it is behind Add, and Add's answer.
func (p plain) add(name string) (plain, int, api.Errno) {
	if !plainName(name) {
		return p, 0, api.ErrStrsPlace
	}
	if !p.has(name) {
		p = append(p[:len(p):len(p)], name)
	}
	return p, p.place(name), api.OK
}

func (p plain) at(place int) (string, api.Errno) {
	if place == 0 {
		return "", api.OK
	}
	for _, name := range p {
		if p.place(name) == place {
			return name, api.OK
		}
	}
	return "", api.ErrStrsPlace
}

// readPlain cuts the bytes at each 0. What stands behind the last 0 is a name without one behind it.
func readPlain(b string) (plain, int, api.Errno) {
	if !strings.HasPrefix(b, "\x00") {
		return nil, 0, api.ErrStrsForm
	}
	parts := strings.Split(b[1:], "\x00")
	var p plain
	place := 1
	for k, part := range parts {
		behind := k < len(parts)-1
		if !behind && part == "" {
			break
		}
		if !behind || !plainName(part) || p.has(part) {
			return nil, place, api.ErrStrsForm
		}
		p = append(p, part)
		place += len(part) + 1
	}
	return p, 0, api.OK
}
