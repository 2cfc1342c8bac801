package lex

import (
	"spindle/api"
)

// What a byte is, where a token may begin.
const (
	other = iota
	blank
	remark
	letter
	digit
	point
	dollar
	mark
)

func kindOf(c byte) int {
	switch {
	case 'a' <= c && c <= 'z', 'A' <= c && c <= 'Z', c == '_':
		return letter
	case '0' <= c && c <= '9':
		return digit
	}
	switch c {
	case ' ', '\t', '\r':
		return blank
	case ';', '#':
		return remark
	case '.':
		return point
	case '$':
		return dollar
	case ':', ',', '[', ']', '+', '-':
		return mark
	}
	return other
}

// inRun tells whether a byte may stand in a word, a dot or a number.
func inRun(c byte) bool {
	switch kindOf(c) {
	case letter, digit, point, dollar:
		return true
	}
	return false
}

// runSize gives how many bytes at the front of a text may stand in a run.
func runSize(text string) int {
	for n := range len(text) {
		if !inRun(text[n]) {
			return n
		}
	}
	return len(text)
}

func startsWord(text string) bool {
	return text != "" && kindOf(text[0]) == letter
}

func isWord(text string) bool {
	return len(text) <= api.MaxName && startsWord(text) && runSize(text) == len(text)
}

func isMark(text string) bool {
	return len(text) == 1 && kindOf(text[0]) == mark
}
