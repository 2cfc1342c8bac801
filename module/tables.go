package module

import (
	"spindle/api"
)

// The words of the kinds of tables.
const (
	wordArray = "array"
	wordHash  = "hash"
)

// numberCount is how many numbers a table's statement has: key, value and entries.
const numberCount = 3

const (
	arrayKey   = 4 // the key size of an array
	rounding   = 8 // value sizes are rounded up to a multiple of it
	entryExtra = 8 // what an entry takes beside its key and its value
)

// tableOf gives the table that a statement declares; where it has not just the words and numbers of one, a table that may not be.
func tableOf(s api.Statement) api.TableDef {
	if len(s.Words) != 1 || len(s.Numbers) != numberCount {
		return api.TableDef{}
	}
	return api.TableDef{Name: s.Name, Kind: kindOf(s.Words[0]), Key: s.Numbers[0], Value: s.Numbers[1], Entries: s.Numbers[2]}
}

func kindOf(word string) int {
	switch word {
	case wordArray:
		return api.TableArray
	case wordHash:
		return api.TableHash
	}
	return 0
}

func wordOf(kind int) string {
	if kind == api.TableArray {
		return wordArray
	}
	return wordHash
}

func tablesMay(ts []api.TableDef) bool {
	for _, t := range ts {
		if !tableMay(t) {
			return false
		}
	}
	return true
}

// tableMay tells whether a table may be. The size is reckoned last: of numbers within their bounds it can't wrap round.
func tableMay(t api.TableDef) bool {
	return keyFits(t) &&
		1 <= t.Value && t.Value <= api.MaxValue &&
		1 <= t.Entries && t.Entries <= api.MaxEntries &&
		sizeOf(t) <= api.MaxSize
}

func keyFits(t api.TableDef) bool {
	switch t.Kind {
	case api.TableArray:
		return t.Key == arrayKey
	case api.TableHash:
		return 1 <= t.Key && t.Key <= api.MaxKey
	}
	return false
}

func sizeOf(t api.TableDef) int {
	value := (t.Value + rounding - 1) / rounding * rounding
	return t.Entries * (t.Key + value + entryExtra)
}
