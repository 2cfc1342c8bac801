package object

import (
	"bytes"
	published "debug/elf"
	"encoding/binary"
	"fmt"
	"math"
	"reflect"
	"slices"
	"strconv"
	"strings"
	"testing"

	"spindle/api"
	"spindle/elf"
)

func exits(n int) []api.Insn { return slices.Repeat([]api.Insn{exit()}, n) }
func exit() api.Insn         { return api.Insn{Op: 0x95} }
func callSite() api.Insn     { return api.Insn{Op: 0x85, Src: 1, Imm: -1} }
func helper(n int) api.Insn  { return api.Insn{Op: 0x85, Imm: n} }
func wide(n int) api.Insn    { return api.Insn{Op: 0x18, Dst: 3, Imm: n} }
func loadSite() api.Insn     { return api.Insn{Op: 0x18, Dst: 1, Src: 1} }

func fun(name string, first, count int) api.ObjFunc {
	return api.ObjFunc{Name: name, First: first, Count: count}
}

func globalFun(name string, first, count int) api.ObjFunc {
	return api.ObjFunc{Name: name, Global: true, First: first, Count: count}
}

func array(name string) api.TableDef {
	return api.TableDef{Name: name, Kind: api.TableArray, Key: 4, Value: 9, Entries: 3}
}

func hash(name string) api.TableDef {
	return api.TableDef{Name: name, Kind: api.TableHash, Key: 7, Value: 300, Entries: 70}
}

func callTo(at, name int) api.Reloc { return api.Reloc{At: at, Kind: api.RelCall, Name: name} }
func loadOf(at, name int) api.Reloc { return api.Reloc{At: at, Kind: api.RelTable, Name: name} }

// short tells the beginning of a thing, as some are long.
func short(x any) string {
	s := fmt.Sprintf("%+v", x)
	return s[:min(len(s), 400)]
}

// equal holds two objects against each other; nil and empty lists are one.
func equal(a, b api.Object) bool {
	return slices.Equal(a.Text, b.Text) && slices.Equal(a.Funcs, b.Funcs) && slices.Equal(a.Tables, b.Tables) &&
		slices.Equal(a.Externs, b.Externs) && slices.Equal(a.Relocs, b.Relocs)
}

func copyOf(o api.Object) api.Object {
	return api.Object{
		Text: slices.Clone(o.Text), Funcs: slices.Clone(o.Funcs), Tables: slices.Clone(o.Tables),
		Externs: slices.Clone(o.Externs), Relocs: slices.Clone(o.Relocs),
	}
}

// fileFor gives the file of an object that may be.
func fileFor(t *testing.T, o api.Object) []byte {
	t.Helper()
	b, at, e := Write(o)
	if at != 0 || e != api.OK {
		t.Fatalf("P12.2: Write(%s) = %d, %d, want 0, OK", short(o), at, e)
	}
	return b
}

// checkObject holds Check and Write against the second reading, and Read against what was written. It ends the test at the first that differs, as it is called very often.
func checkObject(t *testing.T, o api.Object) {
	t.Helper()
	at, e := Check(o)
	wantAt, want := checkPlain(o)
	if at != wantAt || e != want {
		t.Fatalf("P12.1: Check(%s) = %d, %d, want %d, %d", short(o), at, e, wantAt, want)
	}
	b, at, e := Write(o)
	if at != wantAt || e != want {
		t.Fatalf("P12.2: Write(%s) = %d, %d, want %d, %d", short(o), at, e, wantAt, want)
	}
	if e != api.OK {
		if len(b) != 0 {
			t.Fatalf("P12.2: Write(%s) gives bytes beside an error", short(o))
		}
		return
	}
	if !bytes.Equal(b, filePlain(o)) {
		t.Fatalf("P12.2: Write(%s) = %x, want %x", short(o), b, filePlain(o))
	}
	if again, at, e := Read(b); !equal(again, o) || at != 0 || e != api.OK {
		t.Fatalf("P12.4: Read of Write(%s) = %s, %d, %d", short(o), short(again), at, e)
	}
}

// checkRead holds Read against the second reading, and Write against what was read.
func checkRead(t *testing.T, what string, b []byte) {
	t.Helper()
	o, at, e := Read(b)
	want, wantAt, wantE := readPlain(b)
	if !equal(o, want) || at != wantAt || e != wantE {
		t.Fatalf("P12.3: Read(%s) = %s, %d, %d, want %s, %d, %d", what, short(o), at, e, short(want), wantAt, wantE)
	}
	if e != api.OK {
		return
	}
	if again, at, e := Write(o); !bytes.Equal(again, b) || at != 0 || e != api.OK {
		t.Fatalf("P12.4: %s: Write of what Read gives differs, or answers %d, %d", what, at, e)
	}
}

func checkFault(t *testing.T, what string, o api.Object, wantAt int, want api.Errno) {
	t.Helper()
	if at, e := Check(o); at != wantAt || e != want {
		t.Errorf("P12.1: %s: Check(%s) = %d, %d, want %d, %d", what, short(o), at, e, wantAt, want)
	}
	checkObject(t, o)
}

func checkRefused(t *testing.T, what string, b []byte, wantAt int, want api.Errno) {
	t.Helper()
	if o, at, e := Read(b); !equal(o, api.Object{}) || at != wantAt || e != want {
		t.Errorf("P12.3: Read(%s) = %s, %d, %d, want nothing, %d, %d", what, short(o), at, e, wantAt, want)
	}
}

func TestExamplesCheck(t *testing.T) {
	two := exits(2)
	f := []api.ObjFunc{fun("f", 0, 2)}
	call := []api.Insn{callSite(), exit()}
	checkFault(t, "nothing", api.Object{}, 0, api.OK)
	checkFault(t, "no function", api.Object{Text: exits(1)}, 0, api.ErrObjectFunc)
	checkFault(t, "one function", api.Object{Text: exits(1), Funcs: []api.ObjFunc{fun("f", 0, 1)}}, 0, api.OK)
	checkFault(t, "f twice", api.Object{Text: two, Funcs: []api.ObjFunc{fun("f", 0, 1), fun("f", 1, 1)}}, 1, api.ErrObjectTwice)
	checkFault(t, "too long", api.Object{Text: two, Funcs: []api.ObjFunc{fun("f", 0, 1), fun("g", 1, 2)}}, 1, api.ErrObjectFunc)
	checkFault(t, "Text has more", api.Object{Text: two, Funcs: []api.ObjFunc{fun("f", 0, 1)}}, 1, api.ErrObjectFunc)
	checkFault(t, "no relocation", api.Object{Text: call, Funcs: f}, 0, api.ErrObjectReloc)
	checkFault(t, "its relocation", api.Object{Text: call, Funcs: f, Relocs: []api.Reloc{callTo(0, 0)}}, 0, api.OK)
	checkFault(t, "no such name", api.Object{Text: call, Funcs: f, Relocs: []api.Reloc{callTo(0, 1)}}, 0, api.ErrObjectReloc)
	checkFault(t, "elsewhere", api.Object{Text: call, Funcs: f, Relocs: []api.Reloc{callTo(1, 0)}}, 0, api.ErrObjectReloc)
	zero := []api.Insn{{Op: 0x85, Src: 1}, exit()}
	checkFault(t, "Imm 0", api.Object{Text: zero, Funcs: f, Relocs: []api.Reloc{callTo(0, 0)}}, 0, api.ErrObjectInsn)
	key := array("t")
	key.Key = 8
	checkFault(t, "a key of 8", api.Object{Tables: []api.TableDef{key}}, 0, api.ErrObjectTable)
	checkFault(t, "65537 exits", api.Object{Text: exits(65537), Funcs: []api.ObjFunc{fun("f", 0, 65537)}}, 0, api.ErrObjectMany)
}

func TestExamplesFile(t *testing.T) {
	b := fileFor(t, api.Object{})
	if len(b) != 600 {
		t.Errorf("P12.2: Write(nothing) has %d bytes, want 600", len(b))
	}
	sections, _, _ := elf.Read(b)
	want := []api.Section{
		{Name: ".text", Type: 1, Flags: 6, Align: 8},
		{Name: ".maps", Type: 1, Flags: 3, Align: 8},
		{Name: ".rel.text", Type: 9, Flags: 64, Link: 4, Info: 1, Align: 8, EntSize: 16},
		{Name: ".symtab", Type: 2, Link: 5, Info: 1, Align: 8, EntSize: 24, Data: make([]byte, 24)},
		{Name: ".strtab", Type: 3, Align: 1, Data: []byte{0}},
	}
	same := func(a, b api.Section) bool {
		equal := bytes.Equal(a.Data, b.Data)
		a.Data, b.Data = nil, nil
		return equal && reflect.DeepEqual(a, b)
	}
	if !slices.EqualFunc(sections, want, same) {
		t.Errorf("P12.2: the sections of Write(nothing) are %v, want %v", sections, want)
	}
	if o, at, e := Read(b); !equal(o, api.Object{}) || at != 0 || e != api.OK {
		t.Errorf("P12.3: Read(Write(nothing)) = %v, %d, %d", o, at, e)
	}
	checkRefused(t, "nothing", nil, 0, api.ErrElfShort)
	b[18] = 62
	checkRefused(t, "byte 18 turned", b, 18, api.ErrElfHead)
}

// whole gives an object that has everything: both bindings in turns, wide instructions ahead of, in and behind functions, each kind of relocation.
func whole() api.Object {
	return api.Object{
		Text: []api.Insn{
			wide(1 << 40), loadSite(), callSite(), exit(),
			callSite(), {Op: 0x15, Dst: 2, Off: -7, Imm: 9}, exit(),
			loadSite(), callSite(), helper(1), wide(-1),
			exit(),
		},
		Funcs:   []api.ObjFunc{globalFun("main", 0, 4), fun("zed", 4, 3), globalFun("a.b$c", 7, 4), fun("_", 11, 1)},
		Tables:  []api.TableDef{hash("t1"), array("t0"), hash("Counts")},
		Externs: []string{"x", "ext2"},
		Relocs:  []api.Reloc{loadOf(1, 2), callTo(2, 5), callTo(4, 2), loadOf(7, 0), callTo(8, 1)},
	}
}

// someObjects gives objects that may be.
func someObjects() []api.Object {
	f := fun("f", 0, 1)
	g := globalFun("g", 0, 1)
	one := exits(1)
	long := strings.Repeat("n", 64)
	return []api.Object{
		{},
		{Text: one, Funcs: []api.ObjFunc{f}},
		{Text: one, Funcs: []api.ObjFunc{g}},
		{Tables: []api.TableDef{array("t")}},
		{Externs: []string{"x"}},
		{Text: one, Funcs: []api.ObjFunc{f}, Externs: []string{"x", "y"}},
		{Text: one, Funcs: []api.ObjFunc{g}, Tables: []api.TableDef{hash("a"), hash(long)}, Externs: []string{long[:63]}},
		{Text: exits(2), Funcs: []api.ObjFunc{g, fun("f", 1, 1)}},
		{Text: []api.Insn{wide(1), exit()}, Funcs: []api.ObjFunc{fun("f", 0, 1), fun("g", 1, 1)}},
		{Text: []api.Insn{callSite()}, Funcs: []api.ObjFunc{f}, Externs: []string{"x"}, Relocs: []api.Reloc{callTo(0, 1)}},
		{Text: []api.Insn{loadSite()}, Funcs: []api.ObjFunc{g}, Tables: []api.TableDef{array("t")}, Relocs: []api.Reloc{loadOf(0, 0)}},
		whole(),
	}
}

func TestThereAndBack(t *testing.T) {
	for _, o := range someObjects() {
		checkObject(t, o)
		checkRead(t, "a file", filePlain(o))
	}
}

// TestPublishedForm: the library's reader of the published form finds sections, symbols and relocations.
func TestPublishedForm(t *testing.T) {
	o := whole()
	f, err := published.NewFile(bytes.NewReader(fileFor(t, o)))
	if err != nil {
		t.Fatalf("P12.2: %v", err)
	}
	if f.Machine != published.EM_BPF || f.Type != published.ET_REL || len(f.Sections) != 7 {
		t.Errorf("P12.2: the library reads %v, %v, %d sections", f.Machine, f.Type, len(f.Sections))
	}
	symbols, err := f.Symbols()
	if err != nil {
		t.Fatalf("P12.2: %v", err)
	}
	var got []string
	for _, s := range symbols {
		got = append(got, fmt.Sprint(s.Name, " ", s.Info, " ", int(s.Section), " ", s.Value, " ", s.Size))
	}
	want := []string{
		"zed 2 1 48 24", "_ 2 1 120 8", "t1 1 2 0 16", "t0 1 2 16 16", "Counts 1 2 32 16",
		"main 18 1 0 48", "a.b$c 18 1 72 48", "x 16 0 0 0", "ext2 16 0 0 0",
	}
	if !slices.Equal(got, want) {
		t.Errorf("P12.2: the library reads the symbols %q, want %q", got, want)
	}
	if head := f.Section(".symtab").SectionHeader; head.Info != 6 || head.Link != 5 {
		t.Errorf("P12.2: the library reads %+v", head)
	}
	rels := make([]published.Rel64, len(o.Relocs))
	if err := binary.Read(f.Section(".rel.text").Open(), f.ByteOrder, rels); err != nil {
		t.Fatalf("P12.2: %v", err)
	}
	got = nil
	for _, r := range rels {
		got = append(got, fmt.Sprint(r.Off, " ", published.R_TYPE64(r.Info), " ", symbols[published.R_SYM64(r.Info)-1].Name))
	}
	if want := []string{"16 1 Counts", "32 10 ext2", "48 10 a.b$c", "72 1 t1", "88 10 zed"}; !slices.Equal(got, want) {
		t.Errorf("P12.2: the library reads the relocations %q, want %q", got, want)
	}
}

// TestCounts: as many as may be, and one more; the least that is too many is told.
func TestCounts(t *testing.T) {
	names := func(what string, n int) []string {
		list := make([]string, n)
		for k := range list {
			list[k] = what + strconv.Itoa(k)
		}
		return list
	}
	build := func(wides, exitCount, funcs, tables, externs int) api.Object {
		o := api.Object{Text: slices.Concat(slices.Repeat([]api.Insn{wide(7)}, wides), exits(exitCount)), Externs: names("x", externs)}
		for k, name := range names("f", funcs) {
			o.Funcs = append(o.Funcs, api.ObjFunc{Name: name, Global: k%3 == 1, First: k, Count: 1})
		}
		if funcs > 0 {
			o.Funcs[funcs-1].Count = len(o.Text) - funcs + 1
		}
		for _, name := range names("t", tables) {
			o.Tables = append(o.Tables, array(name))
		}
		return o
	}
	for _, row := range []struct {
		o    api.Object
		at   int
		want api.Errno
	}{
		{build(0, 65536, 1024, 1024, 1024), 0, api.OK},
		{build(32768, 0, 1, 0, 0), 0, api.OK},
		{build(32768, 1, 1, 0, 0), 0, api.ErrObjectMany},
		{build(32767, 2, 1024, 0, 0), 0, api.OK},
		{build(32767, 3, 1, 0, 0), 0, api.ErrObjectMany},
		{build(0, 65537, 1025, 1025, 1025), 0, api.ErrObjectMany},
		{build(0, 65536, 1025, 1025, 1025), 1, api.ErrObjectMany},
		{build(0, 65536, 1025, 1024, 1024), 1, api.ErrObjectMany},
		{build(0, 2000, 1024, 1025, 1025), 2, api.ErrObjectMany},
		{build(0, 2000, 1024, 1025, 0), 2, api.ErrObjectMany},
		{build(0, 2000, 1024, 1024, 1025), 3, api.ErrObjectMany},
		{build(0, 0, 0, 0, 1025), 3, api.ErrObjectMany},
		{build(0, 0, 0, 1024, 1024), 0, api.OK},
	} {
		checkFault(t, "counts", row.o, row.at, row.want)
	}
}

// TestNames: each byte at each end and in the middle of a name, and each length.
func TestNames(t *testing.T) {
	each := func(name string) {
		t.Helper()
		checkObject(t, api.Object{Text: exits(1), Funcs: []api.ObjFunc{fun(name, 0, 1)}})
		checkObject(t, api.Object{Tables: []api.TableDef{array(name)}})
		checkObject(t, api.Object{Externs: []string{name}})
	}
	for c := range 256 {
		b := string([]byte{byte(c)})
		each(b)
		each(b + "aa")
		each("a" + b + "a")
		each("aa" + b)
		each(strings.Repeat("a", 63) + b)
	}
	for n := range 70 {
		each(strings.Repeat("a", n))
		each("_" + strings.Repeat("9", n))
	}
	for _, name := range []string{"é", "aé", "a\n", "\na", "a\x00", "mov", "r1", ".text", "$a", "9a", "array"} {
		each(name)
	}
	o := whole()
	for k := range 9 {
		for j := range k + 1 {
			c := copyOf(o)
			*nameOf(&c, k), *nameOf(&c, j) = "1", ""
			checkFault(t, "two that are no names", c, j, api.ErrObjectName)
		}
	}
}

// nameOf gives the place of the name with that number.
func nameOf(o *api.Object, number int) *string {
	if number < len(o.Funcs) {
		return &o.Funcs[number].Name
	}
	number -= len(o.Funcs)
	if number < len(o.Tables) {
		return &o.Tables[number].Name
	}
	return &o.Externs[number-len(o.Tables)]
}

// TestTwice: each two names alike, and two such pairs.
func TestTwice(t *testing.T) {
	for k := range 9 {
		for j := range k {
			c := copyOf(whole())
			*nameOf(&c, k) = *nameOf(&c, j)
			checkFault(t, "two names alike", c, k, api.ErrObjectTwice)
			for i := range 9 {
				d := copyOf(c)
				*nameOf(&d, i) = *nameOf(&d, (i+4)%9)
				checkObject(t, d)
			}
		}
	}
}

// eachList calls f with all lists of up to so many of the items.
func eachList[E any](items []E, most int, f func([]E)) {
	var grow func([]E)
	grow = func(ahead []E) {
		f(ahead)
		if len(ahead) == most {
			return
		}
		for _, x := range items {
			grow(append(ahead[:len(ahead):len(ahead)], x))
		}
	}
	grow(nil)
}

// TestFuncs: all short lists of functions over short texts, and numbers that wrap round when they are added up.
func TestFuncs(t *testing.T) {
	var items []api.ObjFunc
	for first := -1; first <= 4; first++ {
		for count := -1; count <= 4; count++ {
			items = append(items, fun("", first, count))
		}
	}
	big := []int{0, 1, 2, -1, math.MaxInt64, math.MinInt64, math.MaxInt64 - 1, 1 << 62, -1 << 62, 1 << 32, 1<<32 + 1}
	var odd []api.ObjFunc
	for _, first := range big {
		for _, count := range big {
			odd = append(odd, fun("", first, count))
		}
	}
	try := func(fs []api.ObjFunc) {
		for size := range 5 {
			named := slices.Clone(fs)
			for k := range named {
				named[k].Name = string(rune('a' + k))
			}
			o := api.Object{Text: exits(size), Funcs: named}
			at, e := Check(o)
			if wantAt, want := checkPlain(o); at != wantAt || e != want {
				t.Fatalf("P12.1: Check(%s) = %d, %d, want %d, %d", short(o), at, e, wantAt, want)
			}
		}
	}
	eachList(items, 3, try)
	eachList(odd, 2, try)
}

// TestTables: each number of a table at and beside its bounds, and each two so.
func TestTables(t *testing.T) {
	odd := []int{math.MinInt64, -1 << 32, -8, -4, -2, -1, 0, 1, 2, 3, 4, 5, 7, 8, 9, 15, 16, 63, 64, 65, 255, 256, 4087, 4088, 4089, 4095, 4096, 4097, 65535, 65536, 65537, 1<<32 + 1, 1<<32 + 4, 1 << 60, math.MaxInt64 - 7, math.MaxInt64}
	try := func(x api.TableDef) {
		o := api.Object{Tables: []api.TableDef{x}}
		at, e := Check(o)
		if wantAt, want := checkPlain(o); at != wantAt || e != want {
			t.Fatalf("P12.1: Check(%+v) = %d, %d, want %d, %d", x, at, e, wantAt, want)
		}
	}
	for _, base := range []api.TableDef{array("t"), hash("t"), {Name: "t", Kind: 2, Key: 64, Value: 4096, Entries: 4000}} {
		for _, n := range odd {
			for _, m := range odd {
				for pair := range 16 {
					x := base
					numbers := []*int{&x.Kind, &x.Key, &x.Value, &x.Entries}
					*numbers[pair/4], *numbers[pair%4] = n, m
					try(x)
				}
			}
		}
	}
	for key := 1; key <= 64; key++ {
		for value := 1; value <= 4096; value += 1 + key%9 {
			most := 1 << 24 / (key + (value+7)/8*8 + 8)
			for _, entries := range []int{most - 1, most, most + 1} {
				try(api.TableDef{Name: "t", Kind: 1 + value%2, Key: key, Value: value, Entries: entries})
			}
		}
	}
	wrong := hash("w")
	wrong.Entries = 0
	checkFault(t, "the second table", api.Object{Tables: []api.TableDef{array("a"), wrong, wrongNamed(wrong, "v")}}, 1, api.ErrObjectTable)
}

func wrongNamed(x api.TableDef, name string) api.TableDef {
	x.Name = name
	return x
}

// TestSizes: the tables at whose size the bound is met.
func TestSizes(t *testing.T) {
	for _, row := range []struct {
		x    api.TableDef
		want api.Errno
	}{
		{api.TableDef{Kind: 2, Key: 64, Value: 184, Entries: 65536}, api.OK},
		{api.TableDef{Kind: 2, Key: 64, Value: 185, Entries: 65536}, api.ErrObjectTable},
		{api.TableDef{Kind: 2, Key: 63, Value: 185, Entries: 65536}, api.ErrObjectTable},
		{api.TableDef{Kind: 2, Key: 56, Value: 192, Entries: 65536}, api.OK},
		{api.TableDef{Kind: 1, Key: 4, Value: 4096, Entries: 4084}, api.OK},
		{api.TableDef{Kind: 1, Key: 4, Value: 4096, Entries: 4085}, api.ErrObjectTable},
		{api.TableDef{Kind: 1, Key: 4, Value: 1, Entries: 65536}, api.OK},
		{api.TableDef{Kind: 1, Key: 4, Value: 1, Entries: 65537}, api.ErrObjectTable},
		{api.TableDef{Kind: 0, Key: 4, Value: 1, Entries: 1}, api.ErrObjectTable},
		{api.TableDef{Kind: 3, Key: 4, Value: 1, Entries: 1}, api.ErrObjectTable},
	} {
		row.x.Name = "t"
		checkFault(t, "a size", api.Object{Tables: []api.TableDef{row.x}}, 0, row.want)
	}
}

// TestInsns: each opcode with many fields, alone and behind another one; sites have their relocation.
func TestInsns(t *testing.T) {
	numbers := []int{-2, -1, 0, 1, 2, 8, 10, 11, 16, 0xf1, 1<<31 - 1, 1 << 31, 1 << 32, 1<<32 - 1, -1 << 31, -1<<31 - 1, math.MaxInt64}
	try := func(i api.Insn) {
		o := api.Object{Text: []api.Insn{exit(), i}, Funcs: []api.ObjFunc{fun("f", 0, 2)}, Tables: []api.TableDef{array("t")}}
		switch {
		case i.Op == 0x85 && i.Src == 1:
			o.Relocs = []api.Reloc{callTo(1, 0)}
		case i.Op == 0x18 && i.Src == 1:
			o.Relocs = []api.Reloc{loadOf(1, 0)}
		}
		checkObject(t, o)
	}
	for op := -1; op < 258; op++ {
		for _, n := range numbers {
			try(api.Insn{Op: op, Imm: n})
			try(api.Insn{Op: op, Off: n})
			try(api.Insn{Op: op, Src: n})
			try(api.Insn{Op: op, Dst: n})
			try(api.Insn{Op: op, Src: 1, Imm: n})
			try(api.Insn{Op: op, Src: 1, Imm: -1, Dst: n})
			try(api.Insn{Op: op, Src: 1, Imm: 0, Dst: n})
			try(api.Insn{Op: op, Src: n, Imm: -1})
		}
	}
	f := []api.ObjFunc{fun("f", 0, 4)}
	checkFault(t, "an ldmap with Imm 1", api.Object{Text: []api.Insn{exit(), exit(), {Op: 0x18, Src: 1, Imm: 1}, {Op: 0}}, Funcs: f}, 2, api.ErrObjectInsn)
	checkFault(t, "an opcode that is none", api.Object{Text: []api.Insn{exit(), exit(), exit(), {Op: 0}}, Funcs: f}, 3, api.ErrObjectInsn)
	checkFault(t, "a branch that leads nowhere", api.Object{Text: []api.Insn{{Op: 0x05, Off: -32768}, {Op: 0x06, Imm: 1 << 30}, exit(), {Op: 0x1d, Off: 32767}}, Funcs: f}, 0, api.OK)
}

// TestRelocs: all short lists of relocations over a text with sites of both kinds.
func TestRelocs(t *testing.T) {
	var items []api.Reloc
	for at := -1; at <= 4; at++ {
		for kind := range 4 {
			for name := -1; name <= 4; name++ {
				items = append(items, api.Reloc{At: at, Kind: kind, Name: name})
			}
		}
	}
	text := []api.Insn{exit(), callSite(), loadSite(), helper(-1)}
	o := api.Object{Text: text, Funcs: []api.ObjFunc{fun("f", 0, 2), globalFun("g", 2, 2)}, Tables: []api.TableDef{array("t")}, Externs: []string{"x"}}
	eachList(items, 2, func(rs []api.Reloc) {
		c := o
		c.Relocs = rs
		checkObject(t, c)
		c.Tables, c.Externs = nil, nil
		checkObject(t, c)
		c.Externs = []string{"x", "y"}
		checkObject(t, c)
		c.Text = []api.Insn{loadSite(), wide(1), exit(), loadSite()}
		c.Tables = []api.TableDef{hash("t"), array("u"), array("v"), array("w")}
		checkObject(t, c)
	})
	big := []int{math.MinInt64, math.MaxInt64, 1<<32 + 1, 1 << 32, -1 << 32}
	for _, n := range big {
		for _, r := range []api.Reloc{callTo(n, 0), {At: 1, Kind: n}, callTo(1, n)} {
			c := o
			c.Relocs = []api.Reloc{r, loadOf(2, 0)}
			checkFault(t, "great numbers", c, 0, api.ErrObjectReloc)
			c.Relocs = []api.Reloc{callTo(1, 0), r}
			checkFault(t, "great numbers", c, 1, api.ErrObjectReloc)
		}
	}
}

// TestRelocsOfWhole: each relocation of an object changed, left out, doubled, or with others behind it.
func TestRelocsOfWhole(t *testing.T) {
	o := whole()
	for k, r := range o.Relocs {
		for n := -3; n < 12; n++ {
			for _, x := range []api.Reloc{{At: n, Kind: r.Kind, Name: r.Name}, {At: r.At, Kind: n, Name: r.Name}, {At: r.At, Kind: r.Kind, Name: n}} {
				c := copyOf(o)
				c.Relocs[k] = x
				checkObject(t, c)
			}
		}
		c := copyOf(o)
		c.Relocs = slices.Delete(c.Relocs, k, k+1)
		checkFault(t, "one left out", c, k, api.ErrObjectReloc)
		c = copyOf(o)
		c.Relocs = slices.Insert(c.Relocs, k, c.Relocs[k])
		checkFault(t, "one twice", c, k+1, api.ErrObjectReloc)
		c = copyOf(o)
		c.Relocs = c.Relocs[:k]
		checkFault(t, "too few", c, k, api.ErrObjectReloc)
	}
	c := copyOf(o)
	c.Relocs = append(c.Relocs, callTo(11, 0), callTo(12, 0))
	checkFault(t, "too many", c, 5, api.ErrObjectReloc)
}

// breaks gives, in the order of the seven points, changes by which the whole object no longer meets the point, and where that is told.
func breaks() []func(*api.Object) {
	return []func(*api.Object){
		func(o *api.Object) { o.Externs = append(o.Externs, make([]string, 1025)...) },
		func(o *api.Object) { o.Tables[1].Name = "" },
		func(o *api.Object) { o.Externs[1] = o.Funcs[0].Name },
		func(o *api.Object) { o.Funcs[2].First++ },
		func(o *api.Object) { o.Tables[2].Value = 0 },
		func(o *api.Object) { o.Text[4].Imm = 0 },
		func(o *api.Object) { o.Relocs[3].Name = -1 },
	}
}

// TestPointsInOrder: of every set of faults the first point is told.
func TestPointsInOrder(t *testing.T) {
	wants := []struct {
		at int
		e  api.Errno
	}{{3, api.ErrObjectMany}, {5, api.ErrObjectName}, {8, api.ErrObjectTwice}, {2, api.ErrObjectFunc}, {2, api.ErrObjectTable}, {4, api.ErrObjectInsn}, {3, api.ErrObjectReloc}}
	for set := 1; set < 1<<7; set++ {
		o := copyOf(whole())
		first := -1
		for k, change := range breaks() {
			if set>>k&1 == 0 {
				continue
			}
			change(&o)
			if first < 0 {
				first = k
			}
		}
		checkFault(t, "faults of points "+strconv.FormatInt(int64(set), 2), o, wants[first].at, wants[first].e)
	}
}

// TestBindings: all ways in which five functions are global or not, with wide instructions between them.
func TestBindings(t *testing.T) {
	for set := range 1 << 5 {
		for wides := range 1 << 5 {
			var o api.Object
			for k := range 5 {
				i := exit()
				if wides>>k&1 == 1 {
					i = wide(k)
				}
				o.Text = append(o.Text, i, callSite(), loadSite())
				o.Funcs = append(o.Funcs, api.ObjFunc{Name: string(rune('z' - k)), Global: set>>k&1 == 1, First: 3 * k, Count: 3})
				o.Relocs = append(o.Relocs, callTo(3*k+1, (k*3+set)%7), loadOf(3*k+2, (k+wides)%2))
			}
			o.Tables = []api.TableDef{hash("y1"), array("a1")}
			o.Externs = []string{"m", "a"}
			checkObject(t, o)
		}
	}
}

// TestEveryByte: each byte of some files with some numbers, and each of the data of the object that has everything with every number.
func TestEveryByte(t *testing.T) {
	for _, o := range someObjects() {
		b := fileFor(t, o)
		eachByte(t, b, 0, len(b), []byte{0, 1, 2, 3, 8, 0x10, 0x12, 0x18, 'f', 0x80, 0xff})
	}
	const share = 64
	for first := 0; first < 256; first += share {
		var numbers []byte
		for n := range share {
			numbers = append(numbers, byte(first+n))
		}
		b := fileFor(t, whole())
		eachByte(t, b, 64, dataPlace(b, 6), numbers)
	}
}

// eachByte puts each of the numbers at each place of a part of a file, which no other test has.
func eachByte(t *testing.T, b []byte, begin, end int, numbers []byte) {
	t.Run("", func(t *testing.T) {
		t.Parallel()
		for place := begin; place < end; place++ {
			old := b[place]
			for _, n := range numbers {
				b[place] = n
				checkRead(t, "byte "+strconv.Itoa(place)+" as "+strconv.Itoa(int(n)), b)
			}
			b[place] = old
		}
	})
}

// TestEnds: every piece that a file begins with, and bytes behind it.
func TestEnds(t *testing.T) {
	for _, o := range someObjects() {
		b := fileFor(t, o)
		for end := range b {
			checkRead(t, "the first "+strconv.Itoa(end)+" bytes", b[:end])
			if o, at, e := Read(b[:end]); e == api.OK || !equal(o, api.Object{}) || at > end {
				t.Fatalf("P12.3: Read of the first %d of %d bytes = %s, %d, %d", end, len(b), short(o), at, e)
			}
		}
		for more := 1; more < 70; more++ {
			checkRefused(t, "bytes more", append(bytes.Clone(b), make([]byte, more)...), 40, api.ErrElfHead)
		}
	}
}
