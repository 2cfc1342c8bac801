package object

import (
	"spindle/api"
)

// namesOf gives the names of an object, by their numbers.
func namesOf(o api.Object) []string {
	names := make([]string, 0, len(o.Funcs)+len(o.Tables)+len(o.Externs))
	for _, f := range o.Funcs {
		names = append(names, f.Name)
	}
	for _, t := range o.Tables {
		names = append(names, t.Name)
	}
	return append(names, o.Externs...)
}

// isName tells whether a text is a name (DOC.md, Words).
func isName(text string) bool {
	if text == "" || len(text) > api.MaxName || !isLetter(text[0]) {
		return false
	}
	for k := range len(text) {
		if !inName(text[k]) {
			return false
		}
	}
	return true
}

func isLetter(c byte) bool {
	return 'a' <= c && c <= 'z' || 'A' <= c && c <= 'Z' || c == '_'
}

func inName(c byte) bool {
	return isLetter(c) || '0' <= c && c <= '9' || c == '.' || c == '$'
}
