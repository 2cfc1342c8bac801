package object

import (
	"spindle/api"
	"spindle/code"
	"spindle/isa"
	"spindle/reloc"
	"spindle/strs"
	"spindle/symtab"
)

// The names of the sections.
const (
	textName    = ".text"
	mapsName    = ".maps"
	relName     = ".rel.text"
	symbolsName = ".symtab"
	stringsName = ".strtab"
)

const (
	sectionCount = 5
	slotSize     = 8
)

// The numbers of symbols (chapter 10).
const (
	global       = 1 // a Binding
	tableKind    = 1
	functionKind = 2
	textSection  = 1
	mapsSection  = 2
)

// layout is an object that may be, and what its sections tell of one another.
type layout struct {
	object     api.Object
	starts     []int // the slot at which each instruction begins, and behind them how many slots there are
	strings    []byte
	places     []int // of each name in strings
	symbols    []api.Symbol
	symbolOf   []int // the number of the symbol of each name
	localCount int   // how many symbols are not global
}

func layoutOf(o api.Object) (*layout, api.Errno) {
	l := &layout{object: o, starts: startsOf(o.Text)}
	if e := l.addNames(namesOf(o)); e != api.OK {
		return nil, e
	}
	l.addFuncs(false)
	l.addTables()
	l.localCount = len(l.symbols)
	l.addFuncs(true)
	l.addExterns()
	return l, api.OK
}

func startsOf(is []api.Insn) []int {
	starts := make([]int, 0, len(is)+1)
	slot := 0
	for _, i := range is {
		starts = append(starts, slot)
		slot += slotsOf(i)
	}
	return append(starts, slot)
}

func slotsOf(i api.Insn) int {
	if isa.Wide(i) {
		return 2
	}
	return 1
}

func (l *layout) addNames(names []string) api.Errno {
	table := strs.New()
	for _, name := range names {
		place, e := table.Add(name)
		if e != api.OK {
			return e
		}
		l.places = append(l.places, place)
	}
	l.symbolOf = make([]int, len(names))
	b, e := table.Bytes()
	l.strings = b
	return e
}

// addFuncs adds the symbols of the functions that are global, or of those that are not.
func (l *layout) addFuncs(areGlobal bool) {
	binding := 0
	if areGlobal {
		binding = global
	}
	for k, f := range l.object.Funcs {
		if f.Global != areGlobal {
			continue
		}
		begin, end := l.starts[f.First], l.starts[f.First+f.Count]
		l.add(k, api.Symbol{Binding: binding, Kind: functionKind, Section: textSection, Value: slotSize * begin, Size: slotSize * (end - begin)})
	}
}

func (l *layout) addTables() {
	for k := range l.object.Tables {
		l.add(len(l.object.Funcs)+k, api.Symbol{Kind: tableKind, Section: mapsSection, Value: tableSize * k, Size: tableSize})
	}
}

func (l *layout) addExterns() {
	ahead := len(l.object.Funcs) + len(l.object.Tables)
	for k := range l.object.Externs {
		l.add(ahead+k, api.Symbol{Binding: global})
	}
}

// add adds the symbol of the name with that number. Symbols are numbered from 1.
func (l *layout) add(name int, s api.Symbol) {
	s.Name = l.places[name]
	l.symbols = append(l.symbols, s)
	l.symbolOf[name] = len(l.symbols)
}

// tellers gives, by the sections' numbers, the functions that tell them.
func tellers() []func(*layout) (api.Section, api.Errno) {
	return []func(*layout) (api.Section, api.Errno){
		(*layout).text,
		(*layout).maps,
		(*layout).relocs,
		(*layout).symbolTable,
		(*layout).stringTable,
	}
}

func (l *layout) text() (api.Section, api.Errno) {
	b, _, e := code.Encode(l.object.Text)
	return api.Section{Name: textName, Type: 1, Flags: 6, Align: 8, Data: b}, e
}

func (l *layout) maps() (api.Section, api.Errno) {
	b := make([]byte, 0, tableSize*len(l.object.Tables))
	for _, t := range l.object.Tables {
		b = layTable(b, t)
	}
	return api.Section{Name: mapsName, Type: 1, Flags: 3, Align: 8, Data: b}, api.OK
}

func (l *layout) relocs() (api.Section, api.Errno) {
	rels := make([]api.Rel, 0, len(l.object.Relocs))
	for _, r := range l.object.Relocs {
		rels = append(rels, api.Rel{Slot: l.starts[r.At], Kind: r.Kind, Symbol: l.symbolOf[l.nameOf(r)]})
	}
	b, e := reloc.Write(rels)
	return api.Section{Name: relName, Type: 9, Flags: 64, Link: 4, Info: 1, Align: 8, EntSize: 16, Data: b}, e
}

// nameOf gives the number, among all names, of the one that a relocation means.
func (l *layout) nameOf(r api.Reloc) int {
	switch {
	case r.Kind == api.RelTable:
		return len(l.object.Funcs) + r.Name
	case r.Name < len(l.object.Funcs):
		return r.Name
	}
	return len(l.object.Tables) + r.Name
}

func (l *layout) symbolTable() (api.Section, api.Errno) {
	b, e := symtab.Write(l.symbols)
	// The symbol of zeros, which is not among these, comes ahead of them.
	return api.Section{Name: symbolsName, Type: 2, Link: 5, Info: 1 + l.localCount, Align: 8, EntSize: 24, Data: b}, e
}

func (l *layout) stringTable() (api.Section, api.Errno) {
	return api.Section{Name: stringsName, Type: 3, Align: 1, Data: l.strings}, api.OK
}
