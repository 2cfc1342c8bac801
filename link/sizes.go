package link

import (
	"spindle/api"
	"spindle/code"
)

const (
	rounding   = 8 // value sizes are rounded up to a multiple of it
	entryExtra = 8 // what an entry takes beside its key and its value
)

// isLong tells of objects that may be, and of their tables, whether they are too much for an image. Sums of so few sizes, each within its limit, can't wrap round.
func isLong(os []api.Object, tables []api.TableDef) bool {
	slots, functions, room := 0, 0, 0
	for _, o := range os {
		slots += code.Slots(o.Text)
		functions += len(o.Funcs)
	}
	for _, t := range tables {
		room += sizeOf(t)
	}
	return slots > api.MaxImage || functions > api.MaxImgFuncs || len(tables) > api.MaxTables || room > api.MaxRoom
}

func sizeOf(t api.TableDef) int {
	value := (t.Value + rounding - 1) / rounding * rounding
	return t.Entries * (t.Key + value + entryExtra)
}
