package image

import (
	"strings"

	"spindle/api"
)

// The bytes of names.
const (
	letters = "abcdefghijklmnopqrstuvwxyzABCDEFGHIJKLMNOPQRSTUVWXYZ_"
	inNames = letters + "0123456789.$"
)

const (
	arrayKey   = 4 // the key size of an array
	rounding   = 8 // value sizes are rounded up to a multiple of it
	entryExtra = 8 // what an entry takes beside its key and its value
)

// isName tells whether a text is a name (DOC.md, Words).
func isName(text string) bool {
	if text == "" || len(text) > api.MaxName {
		return false
	}
	return strings.IndexByte(letters, text[0]) >= 0 && strings.TrimLeft(text, inNames) == ""
}

// tableMay tells whether a table may be (chapter 7). The size is reckoned last: of numbers within their bounds it can't wrap round.
func tableMay(t api.TableDef) bool {
	leastKey, mostKey := 1, api.MaxKey
	switch t.Kind {
	case api.TableArray:
		leastKey, mostKey = arrayKey, arrayKey
	case api.TableHash:
	default:
		return false
	}
	return within(t.Key, leastKey, mostKey) &&
		within(t.Value, 1, api.MaxValue) &&
		within(t.Entries, 1, api.MaxEntries) &&
		sizeOf(t) <= api.MaxSize
}

func sizeOf(t api.TableDef) int {
	value := (t.Value + rounding - 1) / rounding * rounding
	return t.Entries * (t.Key + value + entryExtra)
}

func within(n, least, most int) bool {
	return least <= n && n <= most
}
