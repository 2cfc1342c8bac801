package reloc

import (
	"math"

	"spindle/api"
)

const (
	entrySize  = 16
	slotSize   = 8
	mostSymbol = math.MaxUint32
	// noneAhead is below every slot.
	noneAhead = -1
)

// The places of an entry's fields.
const (
	slotAt   = 0
	typeAt   = 8
	symbolAt = 12
)

// The types of the published form.
const (
	typeTable = 1
	typeCall  = 10
)

func typeOf(kind int) (int, bool) {
	switch kind {
	case api.RelTable:
		return typeTable, true
	case api.RelCall:
		return typeCall, true
	}
	return 0, false
}

func kindOf(elfType uint64) (int, bool) {
	switch elfType {
	case typeTable:
		return api.RelTable, true
	case typeCall:
		return api.RelCall, true
	}
	return 0, false
}

func layEntry(b []byte, r api.Rel, elfType int) []byte {
	b = lay(b, slotSize*r.Slot, typeAt-slotAt)
	b = lay(b, elfType, symbolAt-typeAt)
	return lay(b, r.Symbol, entrySize-symbolAt)
}

// takeEntry takes up an entry behind one of the slot ahead, or tells the place in the entry at which it is wrong.
func takeEntry(b []byte, ahead int) (api.Rel, int, api.Errno) {
	offset := take(b[slotAt:], typeAt-slotAt)
	if offset%slotSize != 0 || offset >= slotSize*api.MaxSlots {
		return api.Rel{}, slotAt, api.ErrRelocForm
	}
	slot := int(offset / slotSize)
	if slot <= ahead {
		return api.Rel{}, slotAt, api.ErrRelocOrder
	}
	kind, found := kindOf(take(b[typeAt:], symbolAt-typeAt))
	if !found {
		return api.Rel{}, typeAt, api.ErrRelocForm
	}
	symbol := take(b[symbolAt:], entrySize-symbolAt)
	if symbol == 0 {
		return api.Rel{}, symbolAt, api.ErrRelocForm
	}
	return api.Rel{Slot: slot, Kind: kind, Symbol: int(symbol)}, 0, api.OK
}

// lay puts a number of some bytes behind b, the lowest byte first.
func lay(b []byte, n, width int) []byte {
	for k := range width {
		b = append(b, byte(n>>(8*k)))
	}
	return b
}

// take takes up what lay puts.
func take(b []byte, width int) uint64 {
	n := uint64(0)
	for k := range width {
		n |= uint64(b[k]) << (8 * k)
	}
	return n
}
