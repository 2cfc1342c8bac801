package object

import (
	"spindle/api"
)

// noStart stands where no instruction begins.
const noStart = -1

// maker puts an object together of the pieces of a file. Where a number leads nowhere it throws; what leads somewhere, but is not as it would be written, is left to be found by writing the object.
type maker struct {
	pieces *pieces
	object api.Object
	insnAt []int       // of each slot, and of the end, the number of the instruction that begins there
	nameAt map[int]int // of each place in the string table at which a name stands, the name's number
}

func objectOf(p *pieces) api.Object {
	m := maker{pieces: p}
	m.makeLists()
	m.insnAt = insnsBySlot(p.text)
	m.nameAt = namesByPlace(p.names)
	for _, s := range p.symbols {
		m.takeSymbol(s)
	}
	for _, r := range p.rels {
		m.takeRel(r)
	}
	return m.object
}

func insnsBySlot(is []api.Insn) []int {
	insnAt := make([]int, 0, len(is)+1)
	for k, i := range is {
		insnAt = append(insnAt, k)
		for range slotsOf(i) - 1 {
			insnAt = append(insnAt, noStart)
		}
	}
	return append(insnAt, len(is))
}

func namesByPlace(names []string) map[int]int {
	nameAt := make(map[int]int, len(names))
	place := 1
	for k, name := range names {
		nameAt[place] = k
		place += len(name) + 1
	}
	return nameAt
}

// makeLists makes the lists as long as the symbols say. Each symbol has a name of its own, and there are no others.
func (m *maker) makeLists() {
	funcs, tables := 0, 0
	for _, s := range m.pieces.symbols {
		switch s.Kind {
		case functionKind:
			funcs++
		case tableKind:
			tables++
		}
	}
	if len(m.pieces.names) != len(m.pieces.symbols) || len(m.pieces.tables) != tables {
		throw(0, api.ErrObjectSymbols)
	}
	m.object = api.Object{
		Text:    m.pieces.text,
		Funcs:   make([]api.ObjFunc, funcs),
		Tables:  m.pieces.tables,
		Externs: make([]string, len(m.pieces.symbols)-funcs-tables),
	}
}

// takeSymbol puts what a symbol says where the number of its name says.
func (m *maker) takeSymbol(s api.Symbol) {
	number, found := m.nameAt[s.Name]
	if !found {
		throw(0, api.ErrObjectSymbols)
	}
	name := m.pieces.names[number]
	o := m.object
	switch s.Kind {
	case functionKind:
		*item(o.Funcs, number) = m.funcOf(name, s)
	case tableKind:
		item(o.Tables, number-len(o.Funcs)).Name = name
	default:
		*item(o.Externs, number-len(o.Funcs)-len(o.Tables)) = name
	}
}

// item gives the item of a list with that number, if it has one.
func item[E any](list []E, number int) *E {
	if number < 0 || number >= len(list) {
		throw(0, api.ErrObjectSymbols)
	}
	return &list[number]
}

func (m *maker) funcOf(name string, s api.Symbol) api.ObjFunc {
	begin, slots := s.Value/slotSize, s.Size/slotSize
	first, end := m.insnOf(begin), m.insnOf(begin+slots)
	return api.ObjFunc{Name: name, Global: s.Binding == global, First: first, Count: end - first}
}

func (m *maker) insnOf(slot int) int {
	at := *item(m.insnAt, slot)
	if at == noStart {
		throw(0, api.ErrObjectSymbols)
	}
	return at
}

func (m *maker) takeRel(r api.Rel) {
	symbol := *item(m.pieces.symbols, r.Symbol-1)
	name := m.nameAt[symbol.Name]
	switch {
	case r.Kind == api.RelTable:
		name -= len(m.object.Funcs)
	case symbol.Kind != functionKind:
		name -= len(m.object.Tables)
	}
	m.object.Relocs = append(m.object.Relocs, api.Reloc{At: m.insnOf(r.Slot), Kind: r.Kind, Name: name})
}
