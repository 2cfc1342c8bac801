package symtab

import "spindle/api"

const entrySize = 24

// The places of an entry's fields.
const (
	nameAt    = 0
	sortAt    = 4
	zeroAt    = 5
	sectionAt = 6
	valueAt   = 8
	sizeAt    = 16
)

// sortByte gives an entry's fifth byte.
func sortByte(s api.Symbol) int {
	return 16*s.Binding + s.Kind
}

func layEntry(b []byte, s api.Symbol) []byte {
	b = lay(b, s.Name, sortAt-nameAt)
	b = lay(b, sortByte(s), zeroAt-sortAt)
	b = lay(b, 0, sectionAt-zeroAt)
	b = lay(b, s.Section, valueAt-sectionAt)
	b = lay(b, s.Value, sizeAt-valueAt)
	return lay(b, s.Size, entrySize-sizeAt)
}

// takeEntry takes up an entry behind the run, or tells the place in the entry at which it is wrong.
func (r *run) takeEntry(b []byte) (api.Symbol, int, api.Errno) {
	kind, found := sortOf(number(b[sortAt:zeroAt]))
	if !found {
		return api.Symbol{}, sortAt, api.ErrSymtabForm
	}
	if b[zeroAt] != 0 {
		return api.Symbol{}, zeroAt, api.ErrSymtabForm
	}
	s := symbolOf(b)
	if at, wrong := fieldFault(kind, s); wrong {
		return api.Symbol{}, at, api.ErrSymtabForm
	}
	if !r.take(kind, s.Value) {
		return api.Symbol{}, 0, api.ErrSymtabOrder
	}
	return s, 0, api.OK
}

func symbolOf(b []byte) api.Symbol {
	fifth := number(b[sortAt:zeroAt])
	return api.Symbol{
		Name:    number(b[nameAt:sortAt]),
		Binding: fifth / 16,
		Kind:    fifth % 16,
		Section: number(b[sectionAt:valueAt]),
		Value:   number(b[valueAt:sizeAt]),
		Size:    number(b[sizeAt:entrySize]),
	}
}

// fieldFault gives the place of the first field that is none that the sort has, and whether there is one.
func fieldFault(kind sort, s api.Symbol) (int, bool) {
	switch {
	case s.Section != kind.section():
		return sectionAt, true
	case !kind.hasValue(s.Value):
		return valueAt, true
	case !kind.hasSize(s.Size):
		return sizeAt, true
	}
	return 0, false
}

// lay puts a number of some bytes behind b, the lowest byte first.
func lay(b []byte, n, width int) []byte {
	for k := range width {
		b = append(b, byte(n>>(8*k)))
	}
	return b
}

// number takes up what lay puts. A number from 2^63 on comes out below 0, and so is none that a sort has.
func number(b []byte) int {
	n := 0
	for k, part := range b {
		n |= int(part) << (8 * k)
	}
	return n
}
