package object

import (
	"spindle/api"
	"spindle/code"
	"spindle/elf"
	"spindle/reloc"
	"spindle/strs"
	"spindle/symtab"
)

// headSize is where the data of the first section stand in a file.
const headSize = 64

// fault is what is thrown where a piece of a file is wrong: the place, and the error.
type fault struct {
	place int
	code  api.Errno
}

func throw(place int, e api.Errno) {
	panic(fault{place, e})
}

// throwUnlessOK throws an error that a layer below has told.
func throwUnlessOK(place int, e api.Errno) {
	if e != api.OK {
		throw(place, e)
	}
}

// pieces are what the sections of a file say, each by itself.
type pieces struct {
	text    []api.Insn
	tables  []api.TableDef // without names
	rels    []api.Rel
	symbols []api.Symbol
	names   []string
}

// takePieces takes up the pieces of a file, or throws the first fault.
func takePieces(b []byte) *pieces {
	sections, at, e := elf.Read(b)
	throwUnlessOK(at, e)
	if !areNamed(sections, textName, mapsName, relName, symbolsName, stringsName) {
		throw(len(b), api.ErrObjectSymbols)
	}
	p := &pieces{}
	place := headSize
	for number, take := range takers() {
		data := sections[number].Data
		at, e := take(p, data)
		throwUnlessOK(place+at, e)
		// Of the sections ahead of the last one only data of whole slots are taken, so that no padding stands behind them.
		place += len(data)
	}
	return p
}

func areNamed(sections []api.Section, names ...string) bool {
	if len(sections) != len(names) {
		return false
	}
	for k, name := range names {
		if sections[k].Name != name {
			return false
		}
	}
	return true
}

// takers gives, by the sections' numbers, the functions that take up their data, or tell what is wrong in them and where.
func takers() []func(*pieces, []byte) (int, api.Errno) {
	return []func(*pieces, []byte) (int, api.Errno){
		(*pieces).takeText,
		(*pieces).takeMaps,
		(*pieces).takeRelocs,
		(*pieces).takeSymbols,
		(*pieces).takeStrings,
	}
}

func (p *pieces) takeText(b []byte) (int, api.Errno) {
	text, slot, e := code.Decode(b)
	p.text = text
	return slotSize * slot, e
}

func (p *pieces) takeMaps(b []byte) (int, api.Errno) {
	whole := len(b) / tableSize * tableSize
	if whole < len(b) {
		return whole, api.ErrObjectTable
	}
	p.tables = make([]api.TableDef, 0, whole/tableSize)
	for place := 0; place < whole; place += tableSize {
		p.tables = append(p.tables, takeTable(b[place:place+tableSize]))
	}
	return 0, api.OK
}

func (p *pieces) takeRelocs(b []byte) (int, api.Errno) {
	rels, at, e := reloc.Read(b)
	p.rels = rels
	return at, e
}

func (p *pieces) takeSymbols(b []byte) (int, api.Errno) {
	symbols, at, e := symtab.Read(b)
	p.symbols = symbols
	return at, e
}

func (p *pieces) takeStrings(b []byte) (int, api.Errno) {
	table, at, e := strs.Read(b)
	if e != api.OK {
		return at, e
	}
	p.names, e = table.Names()
	return 0, e
}
