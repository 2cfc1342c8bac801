package image

// opening is what the bytes of each image begin with: the mark, and the number of the form.
const opening = "SPIN\x01\x00\x00\x00"

const (
	headSize  = 28
	funcSize  = 16
	tableSize = 20
)

// The places of a function's fields at which it can be wrong. Its name's place is the first one, as a table's is.
const (
	firstAt = 8
	countAt = 12
)

// head is what stands behind the opening: the four counts, and the entry.
type head struct {
	slots, funcs, tables, strings int
	entry                         int
}

func (h *head) fields() []*int {
	return []*int{&h.slots, &h.funcs, &h.tables, &h.strings, &h.entry}
}

// size tells how many bytes an image with these counts has. Counts of four bytes can't wrap it round.
func (h *head) size() int {
	return headSize + slotSize*h.slots + funcSize*h.funcs + tableSize*h.tables + h.strings
}

// funcRow is a function as its bytes have it, counted in slots.
type funcRow struct {
	name, object, first, count int
}

func (f *funcRow) fields() []*int {
	return []*int{&f.name, &f.object, &f.first, &f.count}
}

type tableRow struct {
	name, kind, key, value, entries int
}

func (t *tableRow) fields() []*int {
	return []*int{&t.name, &t.kind, &t.key, &t.value, &t.entries}
}
