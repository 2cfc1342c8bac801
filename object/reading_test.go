package object

import (
	"bytes"
	published "debug/elf"
	"encoding/binary"
	"math/big"
	"regexp"
	"slices"
	"strings"

	"spindle/api"
	"spindle/code"
	"spindle/elf"
	"spindle/isa"
	"spindle/reloc"
	"spindle/strs"
	"spindle/symtab"
)

var plainName = regexp.MustCompile(`\A[a-zA-Z_][a-zA-Z0-9_.$]{0,63}\z`)

func plainNames(o api.Object) []string {
	var names []string
	for _, f := range o.Funcs {
		names = append(names, f.Name)
	}
	for _, t := range o.Tables {
		names = append(names, t.Name)
	}
	return slices.Concat(names, o.Externs)
}

func plainSlots(is []api.Insn) int {
	slots := 0
	for _, i := range is {
		slots++
		if i.Op == 0x18 {
			slots++
		}
	}
	return slots
}

func plainTable(t api.TableDef) bool {
	between := func(n, low, high int) bool { return low <= n && n <= high }
	value := big.NewInt(int64(t.Value))
	for new(big.Int).Mod(value, big.NewInt(8)).Sign() != 0 {
		value.Add(value, big.NewInt(1))
	}
	size := value.Add(value, big.NewInt(int64(t.Key)))
	size.Add(size, big.NewInt(8))
	size.Mul(size, big.NewInt(int64(t.Entries)))
	return between(t.Kind, 1, 2) && between(t.Key, 1, 64) && (t.Kind == 2 || t.Key == 4) &&
		between(t.Value, 1, 4096) && between(t.Entries, 1, 65536) && size.Cmp(big.NewInt(1<<24)) <= 0
}

// checkPlain is Check by the chapter's words.
func checkPlain(o api.Object) (int, api.Errno) {
	for _, point := range []struct {
		fault func(api.Object) int // below 0, if there is none
		e     api.Errno
	}{
		{plainMany, api.ErrObjectMany},
		{plainNoName, api.ErrObjectName},
		{plainTwice, api.ErrObjectTwice},
		{plainFunc, api.ErrObjectFunc},
		{func(o api.Object) int {
			return slices.IndexFunc(o.Tables, func(t api.TableDef) bool { return !plainTable(t) })
		}, api.ErrObjectTable},
		{func(o api.Object) int {
			return slices.IndexFunc(o.Text, func(i api.Insn) bool { return !plainInsn(i) })
		}, api.ErrObjectInsn},
		{plainReloc, api.ErrObjectReloc},
	} {
		if at := point.fault(o); at >= 0 {
			return at, point.e
		}
	}
	return 0, api.OK
}

func plainMany(o api.Object) int {
	return slices.Index([]bool{plainSlots(o.Text) > 65536, len(o.Funcs) > 1024, len(o.Tables) > 1024, len(o.Externs) > 1024}, true)
}

func plainNoName(o api.Object) int {
	return slices.IndexFunc(plainNames(o), func(name string) bool { return !plainName.MatchString(name) })
}

func plainTwice(o api.Object) int {
	names := plainNames(o)
	for k, name := range names {
		if slices.Contains(names[:k], name) {
			return k
		}
	}
	return -1
}

func plainFunc(o api.Object) int {
	end := big.NewInt(0)
	text := big.NewInt(int64(len(o.Text)))
	for k, f := range o.Funcs {
		if end.Cmp(big.NewInt(int64(f.First))) != 0 || f.Count < 1 {
			return k
		}
		end.Add(end, big.NewInt(int64(f.Count)))
		if end.Cmp(text) > 0 {
			return k
		}
	}
	if end.Cmp(text) != 0 {
		return len(o.Funcs)
	}
	return -1
}

func plainInsn(i api.Insn) bool {
	switch {
	case isa.May(i) != api.OK:
		return false
	case i.Op == 0x85 && i.Src == 1:
		return i.Imm == -1
	case i.Op == 0x18 && i.Src == 1:
		return i.Imm == 0
	}
	return true
}

// plainReloc holds the list against one of what each site wants.
func plainReloc(o api.Object) int {
	type site struct{ at, kind, names int }
	var sites []site
	for at, i := range o.Text {
		switch {
		case i.Op == 0x85 && i.Src == 1:
			sites = append(sites, site{at, 2, len(o.Funcs) + len(o.Externs)})
		case i.Op == 0x18 && i.Src == 1:
			sites = append(sites, site{at, 1, len(o.Tables)})
		}
	}
	for k, r := range o.Relocs {
		if k >= len(sites) || r.At != sites[k].at || r.Kind != sites[k].kind || r.Name < 0 || r.Name >= sites[k].names {
			return k
		}
	}
	if len(o.Relocs) < len(sites) {
		return len(o.Relocs)
	}
	return -1
}

func binaryOf(b []byte, xs ...any) []byte {
	for _, x := range xs {
		more, err := binary.Append(b, binary.LittleEndian, x)
		if err != nil {
			panic(err)
		}
		b = more
	}
	return b
}

func zerosTo8(b []byte) []byte {
	for len(b)%8 != 0 {
		b = append(b, 0)
	}
	return b
}

// filePlain lays the file of an object that may be, by the chapter's words and the library's structs of the published form.
func filePlain(o api.Object) []byte {
	names := "\x00"
	for _, name := range plainNames(o) {
		names += name + "\x00"
	}
	symbols, locals := symbolsPlain(o, names)
	section := func(name, kind, flags, link, info, align, size int) published.Section64 {
		return published.Section64{Name: uint32(name), Type: uint32(kind), Flags: uint64(flags), Link: uint32(link), Info: uint32(info), Addralign: uint64(align), Entsize: uint64(size)}
	}
	body, table := make([]byte, 64), make([]byte, 64)
	for _, part := range []struct {
		head published.Section64
		data []byte
	}{
		{section(1, 1, 6, 0, 0, 8, 0), textPlain(o)},
		{section(7, 1, 3, 0, 0, 8, 0), mapsPlain(o)},
		{section(13, 9, 64, 4, 1, 8, 16), relsPlain(o, symbols, names)},
		{section(23, 2, 0, 5, locals+1, 8, 24), binaryOf(make([]byte, 24), symbols)},
		{section(31, 3, 0, 0, 0, 1, 0), []byte(names)},
		{section(39, 3, 0, 0, 0, 1, 0), []byte("\x00.text\x00.maps\x00.rel.text\x00.symtab\x00.strtab\x00.shstrtab\x00")},
	} {
		part.head.Off, part.head.Size = uint64(len(body)), uint64(len(part.data))
		body = zerosTo8(append(body, part.data...))
		table = binaryOf(table, part.head)
	}
	copy(body, binaryOf(nil, published.Header64{
		Ident: [16]byte{0x7f, 'E', 'L', 'F', 2, 1, 1}, Type: 1, Machine: 247, Version: 1,
		Shoff: uint64(len(body)), Ehsize: 64, Shentsize: 64, Shnum: 7, Shstrndx: 6,
	}))
	return append(body, table...)
}

func textPlain(o api.Object) []byte {
	var b []byte
	for _, i := range o.Text {
		b = binaryOf(b, uint8(i.Op), uint8(i.Dst|i.Src<<4), int16(i.Off), int32(i.Imm))
		if i.Op == 0x18 {
			b = binaryOf(b, uint32(0), int32(i.Imm>>32))
		}
	}
	return b
}

func mapsPlain(o api.Object) []byte {
	var b []byte
	for _, t := range o.Tables {
		b = binaryOf(b, uint32(t.Kind), uint32(t.Key), uint32(t.Value), uint32(t.Entries))
	}
	return b
}

// symbolsPlain gives the symbols, and how many are local.
func symbolsPlain(o api.Object, names string) ([]published.Sym64, int) {
	place := func(name string) uint32 { return uint32(strings.Index(names, "\x00"+name+"\x00") + 1) }
	var locals, globals []published.Sym64
	for _, f := range o.Funcs {
		s := published.Sym64{
			Name: place(f.Name), Info: 2, Shndx: 1,
			Value: uint64(8 * plainSlots(o.Text[:f.First])), Size: uint64(8 * plainSlots(o.Text[f.First:f.First+f.Count])),
		}
		if f.Global {
			s.Info = 0x12
			globals = append(globals, s)
		} else {
			locals = append(locals, s)
		}
	}
	for k, t := range o.Tables {
		locals = append(locals, published.Sym64{Name: place(t.Name), Info: 1, Shndx: 2, Value: uint64(16 * k), Size: 16})
	}
	for _, name := range o.Externs {
		globals = append(globals, published.Sym64{Name: place(name), Info: 0x10})
	}
	return slices.Concat(locals, globals), len(locals)
}

func relsPlain(o api.Object, symbols []published.Sym64, names string) []byte {
	numbers := map[string]uint32{}
	for k, s := range symbols {
		name, _, _ := strings.Cut(names[s.Name:], "\x00")
		numbers[name] = uint32(k + 1)
	}
	slot, at := 0, 0
	var b []byte
	for _, r := range o.Relocs {
		slot, at = slot+plainSlots(o.Text[at:r.At]), r.At
		kind, name := uint32(1), ""
		switch {
		case r.Kind == api.RelTable:
			name = o.Tables[r.Name].Name
		case r.Name < len(o.Funcs):
			kind, name = 10, o.Funcs[r.Name].Name
		default:
			kind, name = 10, o.Externs[r.Name-len(o.Funcs)]
		}
		b = binaryOf(b, uint64(8*slot), published.R_INFO(numbers[name], kind))
	}
	return b
}

// readPlain is Read by the chapter's words. What the layers below tell is taken from them.
func readPlain(b []byte) (api.Object, int, api.Errno) {
	if len(b) > 16777216 {
		return api.Object{}, 0, api.ErrObjectLong
	}
	sections, at, e := elf.Read(b)
	if e != api.OK {
		return api.Object{}, at, e
	}
	var names []string
	for _, s := range sections {
		names = append(names, s.Name)
	}
	if strings.Join(names, " ") != ".text .maps .rel.text .symtab .strtab" {
		return api.Object{}, len(b), api.ErrObjectSymbols
	}
	for k, s := range sections {
		if at, e := sectionPlain(s); e != api.OK {
			return api.Object{}, dataPlace(b, k+1) + at, e
		}
	}
	if o, found := objectPlain(sections); found {
		if _, e := checkPlain(o); e == api.OK && bytes.Equal(filePlain(o), b) {
			return o, 0, api.OK
		}
	}
	return api.Object{}, 0, api.ErrObjectSymbols
}

// dataPlace gives the place of a section's data, as its entry in a right table tells it.
func dataPlace(b []byte, number int) int {
	table := binary.LittleEndian.Uint64(b[40:])
	return int(binary.LittleEndian.Uint64(b[int(table)+64*number+24:]))
}

func sectionPlain(s api.Section) (int, api.Errno) {
	switch s.Name {
	case ".text":
		_, slot, e := code.Decode(s.Data)
		return 8 * slot, e
	case ".maps":
		if rest := len(s.Data) % 16; rest != 0 {
			return len(s.Data) - rest, api.ErrObjectTable
		}
		return 0, api.OK
	case ".rel.text":
		_, at, e := reloc.Read(s.Data)
		return at, e
	case ".symtab":
		_, at, e := symtab.Read(s.Data)
		return at, e
	}
	_, at, e := strs.Read(s.Data)
	return at, e
}

// objectPlain gives the only object of which sections could be the file, if there is one: functions are told by their symbols' values, tables and externs by their order.
func objectPlain(sections []api.Section) (api.Object, bool) {
	text, _, _ := code.Decode(sections[0].Data)
	rels, _, _ := reloc.Read(sections[2].Data)
	symbols, _, _ := symtab.Read(sections[3].Data)
	table, _, _ := strs.Read(sections[4].Data)
	insns := map[int]int{plainSlots(text): len(text)}
	slot := 0
	for k, i := range text {
		insns[slot] = k
		slot += plainSlots([]api.Insn{i})
	}
	o := api.Object{Text: text}
	right := true
	maps := sections[1].Data
	for _, s := range slices.SortedStableFunc(slices.Values(symbols), func(a, b api.Symbol) int { return a.Value - b.Value }) {
		name, e := table.At(s.Name)
		right = right && e == api.OK
		switch s.Kind {
		case 2:
			first, found := insns[s.Value/8]
			end, foundEnd := insns[s.Value/8+s.Size/8]
			right = right && found && foundEnd
			o.Funcs = append(o.Funcs, api.ObjFunc{Name: name, Global: s.Binding == 1, First: first, Count: end - first})
		case 1:
			if len(maps) == 0 {
				return api.Object{}, false
			}
			number := func(k int) int { return int(binary.LittleEndian.Uint32(maps[4*k:])) }
			o.Tables = append(o.Tables, api.TableDef{Name: name, Kind: number(0), Key: number(1), Value: number(2), Entries: number(3)})
			maps = maps[16:]
		default:
			o.Externs = append(o.Externs, name)
		}
	}
	for _, r := range rels {
		if r.Symbol > len(symbols) {
			return api.Object{}, false
		}
		at, found := insns[r.Slot]
		right = right && found
		name, _ := table.At(symbols[r.Symbol-1].Name)
		o.Relocs = append(o.Relocs, api.Reloc{At: at, Kind: r.Kind, Name: plainNumber(o, r.Kind, name)})
	}
	return o, right
}

// plainNumber gives the number by which a relocation tells a name, -1 if it can't.
func plainNumber(o api.Object, kind int, name string) int {
	tables := slices.IndexFunc(o.Tables, func(t api.TableDef) bool { return t.Name == name })
	if kind == api.RelTable {
		return tables
	}
	if k := slices.IndexFunc(o.Funcs, func(f api.ObjFunc) bool { return f.Name == name }); k >= 0 {
		return k
	}
	if k := slices.Index(o.Externs, name); k >= 0 {
		return len(o.Funcs) + k
	}
	return -1
}
