package line

import (
	"strconv"
	"strings"

	"spindle/api"
)

// isName tells whether a text is a name (DOC.md, Words).
func isName(text string) bool {
	return len(text) <= api.MaxName && startsWord(text) && runSize(text) == len(text)
}

// startsWord tells whether a text begins as a word does.
func startsWord(text string) bool {
	return text != "" && isLetter(text[0])
}

// runSize gives how many bytes the word or the number at the front of a text has, 0 where none is there.
func runSize(text string) int {
	if text == "" || !isLetter(text[0]) && !isDigit(text[0]) {
		return 0
	}
	n := 1
	for n < len(text) && inRun(text[n]) {
		n++
	}
	return n
}

func inRun(c byte) bool {
	return isLetter(c) || isDigit(c) || c == '.' || c == '$'
}

func isLetter(c byte) bool {
	return 'a' <= c && c <= 'z' || 'A' <= c && c <= 'Z' || c == '_'
}

func isDigit(c byte) bool {
	return '0' <= c && c <= '9'
}

func isHexDigit(c byte) bool {
	return isDigit(c) || 'a' <= c && c <= 'f' || 'A' <= c && c <= 'F'
}

// maxHexDigits is how many digits may stand behind 0x.
const maxHexDigits = 16

// valueOf gives the value of a number without a sign: huge, if it is above 64 bits; not ok, if the text is no number that is one.
func valueOf(text string) (n uint64, huge bool, ok bool) {
	if text == "0" {
		return 0, false, true
	}
	if digits, hex := strings.CutPrefix(text, "0x"); hex {
		if len(digits) > maxHexDigits {
			return 0, false, false
		}
		return digitsValue(digits, 16, isHexDigit)
	}
	if strings.HasPrefix(text, "0") {
		return 0, false, false
	}
	return digitsValue(text, 10, isDigit)
}

// digitsValue gives the value of one digit or more. That all of them are digits is asked first, for strconv gives up at the first digit that is too much.
func digitsValue(digits string, base int, isOne func(byte) bool) (n uint64, huge bool, ok bool) {
	if digits == "" {
		return 0, false, false
	}
	for k := range len(digits) {
		if !isOne(digits[k]) {
			return 0, false, false
		}
	}
	n, err := strconv.ParseUint(digits, base, 64)
	if err != nil {
		return 0, true, true
	}
	return n, false, true
}
