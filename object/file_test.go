package object

import (
	"bytes"
	"encoding/binary"
	"math"
	"math/rand"
	"slices"
	"strconv"
	"strings"
	"testing"

	"spindle/api"
	"spindle/code"
	"spindle/elf"
	"spindle/isa"
	"spindle/reloc"
	"spindle/strs"
	"spindle/symtab"
)

// sectionsOf gives the sections of an object's file.
func sectionsOf(t *testing.T, o api.Object) []api.Section {
	t.Helper()
	sections, at, e := elf.Read(fileFor(t, o))
	if e != api.OK {
		t.Fatalf("P12.2: what Write gives is no file: %d, %d", at, e)
	}
	return sections
}

// laid gives the file of sections, which need not be those of an object.
func laid(t *testing.T, sections ...api.Section) []byte {
	t.Helper()
	b, e := elf.Write(sections)
	if e != api.OK {
		t.Fatal(e)
	}
	return b
}

// with gives the sections with other data in the one of that number, from 0 on.
func with(sections []api.Section, number int, data []byte) []api.Section {
	list := slices.Clone(sections)
	list[number].Data = data
	return list
}

// TestSectionHeads: each number of each section's head is looked at, and refused as a whole.
func TestSectionHeads(t *testing.T) {
	for _, o := range someObjects() {
		sections := sectionsOf(t, o)
		for k := range sections {
			for field := range 6 {
				for _, n := range []int{0, 1, 2, 3, 4, 5, 6, 7, 8, 9, 10, 16, 24, 32, 64, 65, 1<<32 - 1} {
					c := slices.Clone(sections)
					s := &c[k]
					number := []*int{&s.Type, &s.Flags, &s.Link, &s.Info, &s.Align, &s.EntSize}[field]
					changed := *number != n
					*number = n
					b := laid(t, c...)
					checkRead(t, "a head changed", b)
					if changed {
						checkRefused(t, "a head changed", b, 0, api.ErrObjectSymbols)
					}
				}
			}
		}
	}
}

// TestSectionNames: sections that are fewer, more, in another order or otherwise named.
func TestSectionNames(t *testing.T) {
	for _, o := range []api.Object{{}, whole()} {
		sections := sectionsOf(t, o)
		refused := func(c []api.Section) {
			t.Helper()
			b := laid(t, c...)
			checkRefused(t, "sections of other names", b, len(b), api.ErrObjectSymbols)
		}
		refused(nil)
		for k := range sections {
			refused(sections[:k])
			refused(slices.Delete(slices.Clone(sections), k, k+1))
			refused(slices.Insert(slices.Clone(sections), k, sections[k]))
			refused(append(slices.Clone(sections), sections[k]))
			for j := range k {
				c := slices.Clone(sections)
				c[k], c[j] = c[j], c[k]
				refused(c)
			}
			for _, name := range []string{"text", ".tex", ".text2", ".shstrtab", sections[(k+1)%5].Name, strings.ToUpper(sections[k].Name)} {
				c := slices.Clone(sections)
				c[k].Name = name
				refused(c)
			}
		}
		// Wrong data are not looked at where the names are wrong.
		refused(with(sections, 0, []byte{1})[:4])
	}
}

// wrongData gives, for each section, data that its layer refuses, the place, and the error.
func wrongData(t *testing.T) [][]wrongPiece {
	text := textPlain(api.Object{Text: []api.Insn{wide(1), exit()}})
	symbol := binaryOf(make([]byte, 24), make([]byte, 24))
	rel := binaryOf(nil, uint64(8), uint32(10), uint32(1))
	return [][]wrongPiece{
		{
			{append(bytes.Clone(text), 1), 24, api.ErrCodeCut},
			{text[:8], 0, api.ErrCodeCut},
			{slices.Concat(text[16:], text[:8]), 8, api.ErrCodeCut},
			{slices.Concat(text, make([]byte, 8)), 24, api.ErrCodeInsn},
			{slices.Concat(text[16:], text[:8], text[16:]), 8, api.ErrCodeField},
		},
		{
			{make([]byte, 1), 0, api.ErrObjectTable},
			{make([]byte, 15), 0, api.ErrObjectTable},
			{make([]byte, 17), 16, api.ErrObjectTable},
			{make([]byte, 63), 48, api.ErrObjectTable},
		},
		{
			{rel[:15], 0, api.ErrRelocForm},
			{slices.Concat(rel, rel), 16, api.ErrRelocOrder},
			{slices.Concat(rel, make([]byte, 16)), 16, api.ErrRelocOrder},
			{make([]byte, 16), 8, api.ErrRelocForm},
			{binaryOf(nil, uint64(8), uint32(1), uint32(0)), 12, api.ErrRelocForm},
		},
		{
			{nil, 0, api.ErrSymtabForm},
			{make([]byte, 23), 23, api.ErrSymtabForm},
			{bytes.Repeat([]byte{0, 0, 0, 0, 0, 1}, 4), 5, api.ErrSymtabForm},
			{symbol, 28, api.ErrSymtabForm},
			{symbol[:47], 47, api.ErrSymtabForm},
			{binaryOf(make([]byte, 24), uint32(1), uint16(1), uint16(2), uint64(16), uint64(16)), 24, api.ErrSymtabOrder},
		},
		{
			{nil, 0, api.ErrStrsForm},
			{[]byte("a\x00"), 0, api.ErrStrsForm},
			{[]byte("\x00a"), 1, api.ErrStrsForm},
			{[]byte("\x00a\x00bc\x00a\x00"), 6, api.ErrStrsForm},
			{[]byte("\x00a\x00\x00"), 3, api.ErrStrsForm},
		},
	}
}

type wrongPiece struct {
	data []byte
	at   int
	want api.Errno
}

// TestWrongData: what a layer refuses is told with its error, at its place in the file; the first section decides.
func TestWrongData(t *testing.T) {
	wrong := wrongData(t)
	for _, o := range someObjects() {
		sections := sectionsOf(t, o)
		for first, pieces := range wrong {
			for _, piece := range pieces {
				c := with(sections, first, piece.data)
				b := laid(t, c...)
				place := dataPlace(b, first+1) + piece.at
				checkRefused(t, sections[first].Name+" that is wrong", b, place, piece.want)
				for second := first + 1; second < 5; second++ {
					for _, other := range wrong[second] {
						checkRefused(t, "two sections that are wrong", laid(t, with(c, second, other.data)...), place, piece.want)
					}
				}
				// The heads are asked last.
				c[first].Type, c[4].Flags = 77, 5
				checkRefused(t, "wrong data and heads", laid(t, c...), place, piece.want)
			}
		}
	}
}

// bytesOfSymbols gives the bytes of symbols, if they are in order.
func bytesOfSymbols(ss []api.Symbol) ([]byte, bool) {
	b, e := symtab.Write(ss)
	return b, e == api.OK
}

// TestSymbols: each field of each symbol, alone and together with another's name.
func TestSymbols(t *testing.T) {
	for _, o := range someObjects() {
		sections := sectionsOf(t, o)
		symbols, _, _ := symtab.Read(sections[3].Data)
		tryList := func(ss []api.Symbol) {
			t.Helper()
			if data, ok := bytesOfSymbols(ss); ok {
				for info := range len(ss) + 2 {
					c := with(sections, 3, data)
					c[3].Info = info
					checkRead(t, "symbols changed", laid(t, c...))
				}
			}
		}
		for k := range symbols {
			for _, n := range symbolNumbers() {
				for field := range 6 {
					c := slices.Clone(symbols)
					s := &c[k]
					*[]*int{&s.Name, &s.Binding, &s.Kind, &s.Section, &s.Value, &s.Size}[field] = n
					tryList(c)
				}
			}
			tryList(slices.Delete(slices.Clone(symbols), k, k+1))
			for j := range symbols {
				tryList(slices.Insert(slices.Clone(symbols), j, symbols[k]))
				c := slices.Clone(symbols)
				c[k], c[j] = c[j], c[k]
				tryList(c)
				c[k].Name, c[j].Name = c[j].Name, c[k].Name
				tryList(c)
				c = slices.Clone(symbols)
				c[k].Name, c[j].Name = c[j].Name, c[k].Name
				tryList(c)
				c = slices.Clone(symbols)
				c[k].Name = c[j].Name
				tryList(c)
				c = slices.Clone(symbols)
				c[k].Size += c[j].Size
				tryList(c)
				c[j].Value += c[j].Size
				tryList(c)
			}
		}
	}
}

func symbolNumbers() []int {
	list := []int{math.MaxInt64 - 7, math.MaxInt64 - 15, 1 << 62, 1<<32 - 1, 1 << 31, 524288, 65536}
	for n := range 50 {
		list = append(list, n)
	}
	for n := 56; n < 200; n += 8 {
		list = append(list, n)
	}
	return list
}

// TestRels: each field of each relocation in the file.
func TestRels(t *testing.T) {
	for _, o := range someObjects() {
		sections := sectionsOf(t, o)
		rels, _, _ := reloc.Read(sections[2].Data)
		tryList := func(rs []api.Rel) {
			t.Helper()
			if data, e := reloc.Write(rs); e == api.OK {
				checkRead(t, "relocations changed", laid(t, with(sections, 2, data)...))
			}
		}
		more := []int{1<<32 - 1, 1 << 31, 65535, 65536, 300}
		for n := range 20 {
			more = append(more, n)
		}
		for k := range rels {
			for _, n := range more {
				for _, m := range more {
					c := slices.Clone(rels)
					c[k].Slot, c[k].Symbol = n, m
					tryList(c)
				}
				for kind := range 3 {
					c := slices.Clone(rels)
					c[k].Kind, c[k].Symbol = kind, n
					tryList(c)
				}
			}
			tryList(slices.Delete(slices.Clone(rels), k, k+1))
			tryList(rels[:k])
		}
		for slot := range 30 {
			for symbol := range 12 {
				for kind := range 3 {
					place, _ := slices.BinarySearchFunc(rels, slot, func(r api.Rel, slot int) int { return r.Slot - slot })
					tryList(slices.Insert(slices.Clone(rels), place, api.Rel{Slot: slot, Kind: kind, Symbol: symbol}))
				}
			}
		}
	}
}

// TestMaps: each number of each table in the file, and tables more or fewer.
func TestMaps(t *testing.T) {
	for _, o := range someObjects() {
		sections := sectionsOf(t, o)
		maps := sections[1].Data
		try := func(data []byte) {
			t.Helper()
			checkRead(t, "tables changed", laid(t, with(sections, 1, data)...))
		}
		for place := 0; place < len(maps); place += 4 {
			for _, n := range []uint32{0, 1, 2, 3, 4, 5, 8, 64, 65, 4096, 4097, 65536, 65537, 1 << 24, 1 << 31, 1<<32 - 1} {
				c := bytes.Clone(maps)
				binary.LittleEndian.PutUint32(c[place:], n)
				try(c)
			}
		}
		for size := 0; size <= len(maps)+40; size++ {
			try(append(bytes.Clone(maps[:min(size, len(maps))]), make([]byte, max(0, size-len(maps)))...))
		}
		try(append(bytes.Clone(maps), binaryOf(nil, uint32(1), uint32(4), uint32(1), uint32(1))...))
		try(append(binaryOf(nil, uint32(1), uint32(4), uint32(1), uint32(1)), maps...))
	}
}

// TestStrings: names more, fewer, in another order, or otherwise written.
func TestStrings(t *testing.T) {
	for _, o := range someObjects() {
		sections := sectionsOf(t, o)
		names := plainNames(o)
		try := func(names ...string) {
			t.Helper()
			table := strs.New()
			for _, name := range names {
				if _, e := table.Add(name); e != api.OK {
					t.Fatal(e)
				}
			}
			data, _ := table.Bytes()
			checkRead(t, "names changed", laid(t, with(sections, 4, data)...))
		}
		for k, name := range names {
			try(slices.Delete(slices.Clone(names), k, k+1)...)
			try(slices.Insert(slices.Clone(names), k, "more")...)
			for _, other := range []string{"1", "é", name + "a", "\n", strings.ToUpper(name), strings.Repeat("Q", len(name)), strings.Repeat("-", len(name)), strings.Repeat("5", len(name))} {
				if slices.Contains(names, other) || len(other) > 64 {
					continue
				}
				c := slices.Clone(names)
				c[k] = other
				try(c...)
			}
			for j := range k {
				c := slices.Clone(names)
				c[k], c[j] = c[j], c[k]
				try(c...)
			}
		}
		try(append(slices.Clone(names), "behind")...)
		try(names...)
	}
}

// TestText: the text of a file changed, so that sites, starts and lengths are others.
func TestText(t *testing.T) {
	some := []api.Insn{exit(), wide(0), wide(-1), callSite(), loadSite(), helper(3), {Op: 0x85, Src: 1, Imm: 5}, {Op: 0x18, Src: 1, Imm: -1}, {Op: 0x05, Off: 300}}
	for _, o := range someObjects() {
		sections := sectionsOf(t, o)
		try := func(is []api.Insn) {
			t.Helper()
			data, _, e := code.Encode(is)
			if e != api.OK {
				t.Fatal(e)
			}
			checkRead(t, "text changed", laid(t, with(sections, 0, data)...))
		}
		for k := range o.Text {
			try(slices.Delete(slices.Clone(o.Text), k, k+1))
			try(o.Text[:k])
			for _, i := range some {
				try(slices.Insert(slices.Clone(o.Text), k, i))
				c := slices.Clone(o.Text)
				c[k] = i
				try(c)
			}
			for j := range k {
				c := slices.Clone(o.Text)
				c[k], c[j] = c[j], c[k]
				try(c)
			}
		}
		for _, i := range some {
			try(append(slices.Clone(o.Text), i))
		}
	}
}

// TestEveryTwoBytes: two bytes of the sections' data turned at once, so that numbers may fit each other again.
func TestEveryTwoBytes(t *testing.T) {
	t.Parallel()
	o := api.Object{
		Text: []api.Insn{callSite(), exit()}, Funcs: []api.ObjFunc{fun("f", 0, 1), globalFun("g", 1, 1)},
		Externs: []string{"x"}, Relocs: []api.Reloc{callTo(0, 1)},
	}
	b := fileFor(t, o)
	numbers := []byte{0, 1, 8, 'g'}
	for first := 64; first < dataPlace(b, 6); first++ {
		for second := 64; second < first; second++ {
			for _, n := range numbers {
				for _, m := range numbers {
					c := bytes.Clone(b)
					c[first], c[second] = n, m
					checkRead(t, "bytes "+strconv.Itoa(second)+" and "+strconv.Itoa(first)+" turned", c)
				}
			}
		}
	}
}

// chanceObject gives an object that may be.
func chanceObject(r *rand.Rand) api.Object {
	var o api.Object
	funcs, names := r.Intn(6), 0
	name := func() string {
		names++
		return string("abcXYZ_"[r.Intn(7)]) + strings.Repeat("q.$9"[:1+r.Intn(4)], r.Intn(15)) + "_" + strconv.Itoa(names)
	}
	for range r.Intn(5) {
		x := api.TableDef{Name: name(), Kind: 1 + r.Intn(2), Key: 4, Value: 1 + r.Intn(200), Entries: 1 + r.Intn(65536)}
		if x.Kind == api.TableHash {
			x.Key = 1 + r.Intn(40)
		}
		o.Tables = append(o.Tables, x)
	}
	for range r.Intn(5) {
		o.Externs = append(o.Externs, name())
	}
	for range funcs {
		f := api.ObjFunc{Name: name(), Global: r.Intn(2) == 0, First: len(o.Text), Count: 1 + r.Intn(9)}
		for range f.Count {
			o.Text = append(o.Text, chanceInsn(r, &o, funcs))
		}
		o.Funcs = append(o.Funcs, f)
	}
	return o
}

// chanceInsn gives an instruction, and adds its relocation.
func chanceInsn(r *rand.Rand, o *api.Object, funcs int) api.Insn {
	switch n := r.Intn(10); {
	case n < 2:
		o.Relocs = append(o.Relocs, callTo(len(o.Text), r.Intn(funcs+len(o.Externs))))
		return callSite()
	case n < 4 && len(o.Tables) > 0:
		o.Relocs = append(o.Relocs, loadOf(len(o.Text), r.Intn(len(o.Tables))))
		return loadSite()
	case n < 6:
		return wide(int(r.Uint64()))
	}
	for {
		i := api.Insn{Op: r.Intn(256), Dst: r.Intn(11), Off: r.Intn(3) - 1, Imm: r.Intn(9) - 4}
		if isa.May(i) == api.OK {
			return i
		}
	}
}

// TestChance: objects by a fixed row of numbers, some of them changed, and their files, some of them changed.
func TestChance(t *testing.T) {
	r := rand.New(rand.NewSource(12))
	for range 4000 {
		o := chanceObject(r)
		checkObject(t, o)
		if at, e := Check(o); e != api.OK {
			t.Fatalf("P12.1: Check(%s) = %d, %d", short(o), at, e)
		}
		b := fileFor(t, o)
		chanceFile(r, b)
		checkRead(t, "a file changed by chance", b)
		checkRead(t, "sections changed by chance", laid(t, chanceSections(r, sectionsOf(t, o))...))
		spoilByChance(r, &o)
		checkObject(t, o)
	}
}

func chanceFile(r *rand.Rand, b []byte) {
	for range 1 + r.Intn(3) {
		place := r.Intn(len(b))
		if r.Intn(3) > 0 {
			place = 64 + r.Intn(dataPlaceOrEnd(b)-64)
		}
		b[place] = byte(r.Intn(256) >> r.Intn(8))
	}
}

// dataPlaceOrEnd gives the end of the data, whatever the header says by now.
func dataPlaceOrEnd(b []byte) int {
	return len(b) - 7*64
}

// chanceSections puts pieces of the data elsewhere.
func chanceSections(r *rand.Rand, sections []api.Section) []api.Section {
	k := r.Intn(5)
	data := bytes.Clone(sections[k].Data)
	unit := []int{8, 16, 16, 24, 1}[k]
	if len(data) < 2*unit {
		return with(sections, k, append(data, make([]byte, unit*r.Intn(3))...))
	}
	from, to := r.Intn(len(data)/unit)*unit, r.Intn(len(data)/unit)*unit
	switch r.Intn(3) {
	case 0:
		copy(data[to:to+unit], bytes.Clone(data[from:from+unit]))
	case 1:
		data = slices.Insert(data, to, bytes.Clone(data[from:from+unit])...)
	default:
		data = slices.Delete(data, from, from+unit)
	}
	return with(sections, k, data)
}

func spoilByChance(r *rand.Rand, o *api.Object) {
	breaks := []func(){
		func() { o.Funcs[r.Intn(len(o.Funcs))].First += r.Intn(3) - 1 },
		func() { o.Funcs[r.Intn(len(o.Funcs))].Count += r.Intn(3) - 1 },
		func() { o.Funcs[r.Intn(len(o.Funcs))].Name = o.Funcs[r.Intn(len(o.Funcs))].Name },
		func() { o.Tables[r.Intn(len(o.Tables))].Key = r.Intn(70) },
		func() { o.Tables[r.Intn(len(o.Tables))].Name = string(rune(r.Intn(256))) },
		func() { o.Externs[r.Intn(len(o.Externs))] = o.Tables[r.Intn(len(o.Tables))].Name },
		func() { o.Text[r.Intn(len(o.Text))].Imm = r.Intn(3) - 1 },
		func() { o.Text[r.Intn(len(o.Text))].Src = r.Intn(3) },
		func() { o.Relocs[r.Intn(len(o.Relocs))].Name = r.Intn(9) - 1 },
		func() { o.Relocs[r.Intn(len(o.Relocs))].At += r.Intn(3) - 1 },
		func() { o.Relocs[r.Intn(len(o.Relocs))].Kind = r.Intn(4) },
		func() { o.Relocs = o.Relocs[:len(o.Relocs)-1] },
	}
	for range 1 + r.Intn(2) {
		if len(o.Text) > 0 && len(o.Tables) > 0 && len(o.Externs) > 0 && len(o.Relocs) > 0 {
			breaks[r.Intn(len(breaks))]()
		}
	}
}

// roomy gives an object whose lists have spare room, and those lists with their room.
func roomy(o api.Object) (api.Object, api.Object) {
	all := api.Object{
		Text:    append(slices.Clone(o.Text), wide(5)),
		Funcs:   append(slices.Clone(o.Funcs), fun("spare", 1, 2)),
		Tables:  append(slices.Clone(o.Tables), hash("spare")),
		Externs: append(slices.Clone(o.Externs), "spare"),
		Relocs:  append(slices.Clone(o.Relocs), callTo(8, 9)),
	}
	return api.Object{
		Text: all.Text[:len(o.Text)], Funcs: all.Funcs[:len(o.Funcs)], Tables: all.Tables[:len(o.Tables)],
		Externs: all.Externs[:len(o.Externs)], Relocs: all.Relocs[:len(o.Relocs)],
	}, all
}

// TestArgumentsStay: what is handed in is as it was, its spare room too (R4).
func TestArgumentsStay(t *testing.T) {
	for _, o := range someObjects() {
		part, all := roomy(o)
		before := copyOf(all)
		b := fileFor(t, part)
		if _, e := Check(part); e != api.OK || !equal(all, before) {
			t.Errorf("R4: Check or Write changed what it was handed, or answered %d", e)
		}
		c := append(bytes.Clone(b), "spare room"...)
		d := bytes.Clone(c)
		if _, _, e := Read(c[:len(b)]); e != api.OK || !bytes.Equal(c, d) {
			t.Errorf("R4: Read changed what it was handed, or answered %d", e)
		}
	}
}

// spoil writes over an object, and behind its lists.
func spoil(o api.Object) {
	_ = append(o.Text, wide(1))
	_ = append(o.Funcs, fun("spoilt", 9, 9))
	_ = append(o.Tables, hash("spoilt"))
	_ = append(o.Externs, "spoilt")
	_ = append(o.Relocs, callTo(9, 9))
	for k := range o.Text {
		o.Text[k] = wide(1)
	}
	for k := range o.Funcs {
		o.Funcs[k] = fun("spoilt", 9, 9)
	}
	for k := range o.Tables {
		o.Tables[k] = hash("spoilt")
	}
	for k := range o.Externs {
		o.Externs[k] = "spoilt"
	}
	for k := range o.Relocs {
		o.Relocs[k] = callTo(9, 9)
	}
}

// TestNewMemory: answers share nothing with arguments and with answers ahead (R4).
func TestNewMemory(t *testing.T) {
	for _, o := range someObjects() {
		given := copyOf(o)
		b := fileFor(t, given)
		want := bytes.Clone(b)
		first, _, _ := Read(b)
		second, _, _ := Read(b)
		spoil(first)
		spoil(given)
		if !equal(second, o) || !bytes.Equal(b, want) {
			t.Errorf("R4: writing into an object changed something else")
		}
		_ = append(b, 1)
		for k := range b {
			b[k] ^= 0xff
		}
		if again := fileFor(t, second); !bytes.Equal(again, want) || !equal(second, o) {
			t.Errorf("R4: writing into a file changed something else")
		}
	}
}

// TestListsApart: no two lists of one answer share memory (R4).
func TestListsApart(t *testing.T) {
	want := whole()
	b := fileFor(t, want)
	for k := range 5 {
		o, _, _ := Read(b)
		part := []api.Object{{Text: o.Text}, {Funcs: o.Funcs}, {Tables: o.Tables}, {Externs: o.Externs}, {Relocs: o.Relocs}}[k]
		spoil(part)
		same := []bool{slices.Equal(o.Text, want.Text), slices.Equal(o.Funcs, want.Funcs), slices.Equal(o.Tables, want.Tables), slices.Equal(o.Externs, want.Externs), slices.Equal(o.Relocs, want.Relocs)}
		for j, is := range same {
			if is == (j == k) {
				t.Errorf("R4: list %d behind writing into list %d: the same: %v", j, k, is)
			}
		}
	}
}

// TestAgain: a call that is refused leaves nothing behind for the next one (R2).
func TestAgain(t *testing.T) {
	b := fileFor(t, whole())
	for range 3 {
		wrong := bytes.Clone(b)
		wrong[dataPlace(b, 2)] = 3
		checkRefused(t, "a wrong table", wrong, 0, api.ErrObjectSymbols)
		checkRead(t, "a file", b)
		o := whole()
		o.Funcs[1].Name = o.Funcs[0].Name
		checkFault(t, "a name twice", o, 1, api.ErrObjectTwice)
		checkObject(t, whole())
	}
}

// longObject gives an object at every bound: all slots taken by sites, all names of full length.
func longObject() api.Object {
	name := func(what string, k int) string { return what + strings.Repeat("_", 59) + strconv.Itoa(1000 + k)[1:] }
	var o api.Object
	for k := range 65536 {
		o.Text = append(o.Text, callSite())
		o.Relocs = append(o.Relocs, callTo(k, k%2048))
	}
	for k := range 1024 {
		o.Funcs = append(o.Funcs, api.ObjFunc{Name: name("f", k%1000) + strconv.Itoa(k/1000), Global: k%2 == 0, First: 64 * k, Count: 64})
		o.Tables = append(o.Tables, array(name("t", k%1000)+strconv.Itoa(k/1000)))
		o.Externs = append(o.Externs, name("x", k%1000)+strconv.Itoa(k/1000))
	}
	return o
}

// TestLong: an object at every bound, files at the bound of length, and long bytes and lists that are wrong.
func TestLong(t *testing.T) {
	t.Parallel()
	o := longObject()
	checkObject(t, o)
	b := fileFor(t, o)
	checkRead(t, "a long file", b)
	empty := sectionsOf(t, api.Object{})
	most := func(number int, data []byte) []byte { return laid(t, with(empty, number, data)...) }
	frame := len(fileFor(t, api.Object{}))
	text := textPlain(api.Object{Text: exits(8)})
	room := api.MaxObject - frame
	fits := most(0, bytes.Repeat(text, room/64))
	checkRefused(t, "2 million exits", fits, 0, api.ErrObjectSymbols)
	whole := most(0, bytes.Repeat(text[:8], room/8))
	if len(whole) != api.MaxObject {
		t.Fatalf("a file of %d bytes, want %d", len(whole), api.MaxObject)
	}
	checkRefused(t, "as many bytes as may be", whole, 0, api.ErrObjectSymbols)
	checkRefused(t, "8 bytes more", most(0, bytes.Repeat(text[:8], room/8+1)), 0, api.ErrObjectLong)
	checkRefused(t, "a byte more", append(bytes.Clone(whole), 0), 0, api.ErrObjectLong)
	checkRefused(t, "a byte less", whole[:len(whole)-1], 40, api.ErrElfHead)
	checkRefused(t, "100 million zeros", make([]byte, 100_000_000), 0, api.ErrObjectLong)
	checkRefused(t, "many zeros as bytes", make([]byte, api.MaxObject), 0, api.ErrElfHead)
	checkRefused(t, "a million tables without names", most(1, make([]byte, room/16*16)), 0, api.ErrObjectSymbols)
	checkRefused(t, "many tables, cut", most(1, make([]byte, room/16*16-1)), 64+room/16*16-16, api.ErrObjectTable)
	checkRefused(t, "many names", most(4, manyNames()), 0, api.ErrObjectSymbols)
	checkRefused(t, "many externs", laid(t, manyExterns(empty, 400_000)...), 0, api.ErrObjectSymbols)
	checkRefused(t, "too many externs", laid(t, manyExterns(empty, 1025)...), 0, api.ErrObjectSymbols)
	checkRead(t, "1024 externs", laid(t, manyExterns(empty, 1024)...))
	checkFault(t, "5 million exits", api.Object{Text: exits(5_000_000)}, 0, api.ErrObjectMany)
	checkFault(t, "5 million externs", api.Object{Externs: make([]string, 5_000_000)}, 3, api.ErrObjectMany)
	checkFault(t, "5 million relocations", api.Object{Relocs: make([]api.Reloc, 5_000_000)}, 0, api.ErrObjectReloc)
	checkFault(t, "a long name", api.Object{Externs: []string{"a", strings.Repeat("a", 50_000_000)}}, 1, api.ErrObjectName)
}

func manyNames() []byte {
	b := []byte{0}
	for n := range 1_000_000 {
		b = append(b, "a"+strconv.Itoa(n)+"\x00"...)
	}
	return b
}

// manyExterns gives the sections of an object with so many externs, were it one that may be.
func manyExterns(empty []api.Section, count int) []api.Section {
	symbols := make([]byte, 24)
	names := []byte{0}
	for n := range count {
		symbols = binaryOf(symbols, uint32(len(names)), uint32(0x10), uint64(0), uint64(0))
		names = append(names, "a"+strconv.Itoa(n)+"\x00"...)
	}
	return with(with(empty, 3, symbols), 4, names)
}
