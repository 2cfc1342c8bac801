package parse

import (
	"spindle/api"
	"spindle/lex"
)

// The words of the directives, and of the kinds of tables.
const (
	wordFunc   = ".func"
	wordGlobal = ".global"
	wordExtern = ".extern"
	wordMap    = ".map"

	wordArray = "array"
	wordHash  = "hash"
)

// colon is the mark behind a label.
const colon = ":"

// maxNumber is the greatest number that a directive may have, and numberCount how many stand behind a table's kind.
const (
	maxNumber   = 1<<31 - 1
	numberCount = 3
)

func isColon(t api.Token) bool {
	return t.Kind == api.TokenMark && t.Text == colon
}

func isTableKind(word string) bool {
	return word == wordArray || word == wordHash
}

// isName tells whether a text is a name: names are the words of layer 5, and Untoken takes no others.
func isName(text string) bool {
	_, e := lex.Untoken([]api.Token{{Kind: api.TokenWord, Text: text}, {Kind: api.TokenLine}, {Kind: api.TokenEnd}})
	return e == api.OK
}
