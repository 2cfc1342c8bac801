package tables

import "spindle/api"

const (
	arrayKey   = 4 // the key size of an array
	rounding   = 8 // a row is a multiple of it
	entryExtra = 8 // what an entry takes beside its key and its row
)

func isKind(kind int) bool {
	return kind == api.TableArray || kind == api.TableHash
}

// sizesFit tells of an array or a hash whether its sizes are within their limits. The whole is reckoned last: of numbers within their limits it can't wrap round.
func sizesFit(d api.TableDef) bool {
	return keyFits(d) &&
		1 <= d.Value && d.Value <= api.MaxValue &&
		1 <= d.Entries && d.Entries <= api.MaxEntries &&
		d.Entries*(d.Key+rowOf(d)+entryExtra) <= api.MaxSize
}

func keyFits(d api.TableDef) bool {
	if d.Kind == api.TableArray {
		return d.Key == arrayKey
	}
	return 1 <= d.Key && d.Key <= api.MaxKey
}

// rowOf gives how far the values of two entries are from each other.
func rowOf(d api.TableDef) int {
	return (d.Value + rounding - 1) / rounding * rounding
}
