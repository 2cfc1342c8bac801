package object

import (
	"spindle/api"
)

const (
	arrayKey   = 4 // the key size of an array
	rounding   = 8 // value sizes are rounded up to a multiple of it
	entryExtra = 8 // what an entry takes beside its key and its value
)

// A table's bytes in .maps, and those of each of its numbers.
const (
	tableSize   = 16
	numberWidth = 4
)

// tableMay tells whether a table may be. The size is reckoned last: of numbers within their bounds it can't wrap round.
func tableMay(t api.TableDef) bool {
	return keyFits(t) &&
		1 <= t.Value && t.Value <= api.MaxValue &&
		1 <= t.Entries && t.Entries <= api.MaxEntries &&
		sizeOf(t) <= api.MaxSize
}

func keyFits(t api.TableDef) bool {
	switch t.Kind {
	case api.TableArray:
		return t.Key == arrayKey
	case api.TableHash:
		return 1 <= t.Key && t.Key <= api.MaxKey
	}
	return false
}

func sizeOf(t api.TableDef) int {
	value := (t.Value + rounding - 1) / rounding * rounding
	return t.Entries * (t.Key + value + entryExtra)
}

func layTable(b []byte, t api.TableDef) []byte {
	for _, n := range [...]int{t.Kind, t.Key, t.Value, t.Entries} {
		for k := range numberWidth {
			b = append(b, byte(n>>(8*k)))
		}
	}
	return b
}

// takeTable takes up a table but for its name, which stands elsewhere.
func takeTable(b []byte) api.TableDef {
	var numbers [tableSize / numberWidth]int
	for k := range tableSize {
		numbers[k/numberWidth] |= int(b[k]) << (8 * (k % numberWidth))
	}
	return api.TableDef{Kind: numbers[0], Key: numbers[1], Value: numbers[2], Entries: numbers[3]}
}
