package elf

import (
	"bytes"
	published "debug/elf"
	"encoding/binary"
	"fmt"
	"math"
	"math/rand"
	"slices"
	"strconv"
	"strings"
	"testing"

	"spindle/api"
)

const zeros8 = "\x00\x00\x00\x00\x00\x00\x00\x00"

func named(name string, data ...byte) api.Section {
	return api.Section{Name: name, Data: data}
}

func equalSection(a, b api.Section) bool {
	return a.Name == b.Name && a.Type == b.Type && a.Flags == b.Flags && a.Link == b.Link && a.Info == b.Info &&
		a.Align == b.Align && a.EntSize == b.EntSize && bytes.Equal(a.Data, b.Data)
}

func equalSections(a, b []api.Section) bool {
	return slices.EqualFunc(a, b, equalSection)
}

// short tells the beginning of a list, as some lists are long.
func short(list any) string {
	s := fmt.Sprint(list)
	return s[:min(len(s), 300)]
}

// fileOf gives the file of sections that may be.
func fileOf(t *testing.T, sections ...api.Section) []byte {
	t.Helper()
	b, e := Write(sections)
	if e != api.OK {
		t.Fatalf("P9.1: Write of %d sections = %d, want OK", len(sections), e)
	}
	return b
}

func checkWrite(t *testing.T, sections []api.Section) {
	t.Helper()
	b, e := Write(sections)
	want, wantE := writePlain(sections)
	if e != wantE || !bytes.Equal(b, want) {
		t.Errorf("P9.1: Write(%s) = %x, %d, want %x, %d", short(sections), b, e, want, wantE)
	}
}

func checkRefused(t *testing.T, what string, b []byte, wantAt int, want api.Errno) {
	t.Helper()
	if sections, at, e := Read(b); len(sections) != 0 || at != wantAt || e != want {
		t.Errorf("P9.2: Read(%s) = %s, %d, %d, want none, %d, %d", what, short(sections), at, e, wantAt, want)
	}
}

// checkRead holds Read against the second reading, and its answer against Write, where it takes the bytes. It ends the test at the first that differs, as it is called very often.
func checkRead(t *testing.T, what string, b []byte) {
	sections, at, e := Read(b)
	want, wantAt, wantE := readPlain(b)
	if e != wantE || at != wantAt || !equalSections(sections, want) {
		t.Fatalf("P9.2: Read(%s) = %s, %d, %d, want %s, %d, %d\n%x", what, short(sections), at, e, short(want), wantAt, wantE, b)
	}
	if e != api.OK {
		return
	}
	if again, e := Write(sections); e != api.OK || !bytes.Equal(again, b) {
		t.Fatalf("P9.3: %s: Write of what Read gives = %x, %d, want %x", what, again, e, b)
	}
}

// changed gives b with a number of some bytes laid at a place.
func changed(b []byte, place, width int, n uint64) []byte {
	c := bytes.Clone(b)
	for k := range width {
		c[place+k] = byte(n >> (8 * k))
	}
	return c
}

// someLists gives lists of sections that may be, of all sorts.
func someLists() [][]api.Section {
	full := api.Section{
		Name: strings.Repeat("\xff", 64), Type: math.MaxUint32, Flags: math.MaxInt64, Link: math.MaxUint32, Info: math.MaxUint32,
		Align: math.MaxInt64, EntSize: math.MaxInt64, Data: []byte("\xff\xff\xff\xff\xff"),
	}
	lists := [][]api.Section{
		nil,
		{named("a", 7, 8, 9), named("b")},
		{named("a"), named("a", 1), named("a")},
		{named(".shstrtab", 1, 2, 3, 4, 5, 6, 7, 8)},
		{named("a", 1), named(".shstrtab"), named("b", 2), named("a", 3)},
		{full},
		{full, named("b", 0), full},
		{named("a", make([]byte, 17)...), named("ba"), named("a", 1, 2, 3, 4, 5, 6, 7, 8)},
		{{Name: "x", Type: 1, Flags: 2, Link: 3, Info: 4, Align: 5, EntSize: 6, Data: []byte{7}}},
		{{Name: "x", Type: 0x01020304, Flags: 0x0102030405060708, Link: 0x05060708, Info: 0x090a0b0c, Align: 0x1112131415161718, EntSize: 0x2122232425262728}},
	}
	var many []api.Section
	for k := range api.MaxSections {
		many = append(many, api.Section{Name: "n" + strconv.Itoa(k%13), Type: k, Link: 2 * k, Data: bytes.Repeat([]byte{byte(k)}, k)})
		lists = append(lists, slices.Clone(many))
	}
	return lists
}

func TestExamplesWrite(t *testing.T) {
	none := fileOf(t)
	head := "\x7fELF\x02\x01\x01" + strings.Repeat("\x00", 9) + "\x01\x00\xf7\x00\x01\x00\x00\x00" + zeros8 + zeros8 +
		"\x50\x00\x00\x00\x00\x00\x00\x00" + "\x00\x00\x00\x00" + "\x40\x00\x00\x00\x00\x00\x40\x00" + "\x02\x00\x01\x00"
	want := head + "\x00.shstrtab\x00" + "\x00\x00\x00\x00\x00" + strings.Repeat("\x00", 64) +
		"\x01\x00\x00\x00\x03\x00\x00\x00" + zeros8 + zeros8 + "\x40\x00\x00\x00\x00\x00\x00\x00" + "\x0b\x00\x00\x00\x00\x00\x00\x00" +
		zeros8 + "\x01\x00\x00\x00\x00\x00\x00\x00" + zeros8
	if string(none) != want || len(none) != 208 {
		t.Errorf("P9.1: Write(none) = %x, want %x", none, want)
	}
	two := fileOf(t, named("a", 7, 8, 9), named("b"))
	if len(two) != 344 || two[40] != 88 || two[60] != 4 || two[62] != 3 {
		t.Fatalf("P9.1: Write(a, b): %d bytes, table at %d, %d entries, the last one %d", len(two), two[40], two[60], two[62])
	}
	if got, want := string(two[64:88]), "\x07\x08\x09\x00\x00\x00\x00\x00"+"\x00a\x00b\x00.shstrtab\x00"+"\x00"; got != want {
		t.Errorf("P9.1: Write(a, b): data %q, want %q", got, want)
	}
	number := func(place int) uint64 { return binary.LittleEndian.Uint64(two[place:]) }
	for k, want := range [][3]uint64{{0, 0, 0}, {1, 64, 3}, {3, 72, 0}, {5, 72, 15}} {
		entry := 88 + 64*k
		if got := [3]uint64{number(entry) & math.MaxUint32, number(entry + 24), number(entry + 32)}; got != want {
			t.Errorf("P9.1: Write(a, b): entry %d has name, place and size %d, want %d", k, got, want)
		}
	}
}

func TestExamplesRefused(t *testing.T) {
	for what, sections := range map[string][]api.Section{
		"a section without a name": {{Data: []byte{1}}},
		"17 sections":              slices.Repeat([]api.Section{named("a")}, 17),
		"one with Type -1":         {{Name: "a", Type: -1}},
	} {
		if b, e := Write(sections); len(b) != 0 || e != api.ErrElfSection {
			t.Errorf("P9.1: Write(%s) = %d bytes, %d, want none, ErrElfSection", what, len(b), e)
		}
	}
	none := fileOf(t)
	checkRefused(t, "none", nil, 0, api.ErrElfShort)
	checkRefused(t, "63 bytes", none[:63], 63, api.ErrElfShort)
	checkRefused(t, "64 zeros", make([]byte, 64), 0, api.ErrElfHead)
	checkRefused(t, "a byte more", append(bytes.Clone(none), 0), 40, api.ErrElfHead)
	checkRefused(t, "a byte less", none[:207], 40, api.ErrElfHead)
	checkRefused(t, "3 at 62", changed(none, 62, 1, 3), 62, api.ErrElfHead)
	checkRefused(t, "1 at 75", changed(none, 75, 1, 1), 75, api.ErrElfPadding)
	checkRefused(t, "1 at 80", changed(none, 80, 1, 1), 80, api.ErrElfSection)
	checkRefused(t, "2 at 144", changed(none, 144, 1, 2), 144, api.ErrElfSection)
	checkRefused(t, "x at 65", changed(none, 65, 1, 'x'), 144, api.ErrElfSection)
}

func TestThereAndBack(t *testing.T) {
	for _, sections := range someLists() {
		checkWrite(t, sections)
		b := fileOf(t, sections...)
		checkRead(t, "a file", b)
		if got, at, e := Read(b); at != 0 || e != api.OK || !equalSections(got, sections) {
			t.Errorf("P9.3: Read of Write(%s) = %s, %d, %d", short(sections), short(got), at, e)
		}
	}
}

func TestSizesOfData(t *testing.T) {
	for first := range 26 {
		for second := range 10 {
			sections := []api.Section{
				named("a", bytes.Repeat([]byte{0xee}, first)...),
				named("bc", bytes.Repeat([]byte{0xdd}, second)...),
				named(strings.Repeat("n", 1+(first+second)%9)),
			}
			checkWrite(t, sections)
			checkRead(t, "a file", fileOf(t, sections...))
		}
	}
}

// TestPublishedForm: the library's reader of the published form finds the same sections.
func TestPublishedForm(t *testing.T) {
	sections := []api.Section{
		{Name: ".text", Type: 1, Flags: 6, Align: 8, Data: []byte("0123456789")},
		{Name: ".rel", Type: 9, Flags: 64, Link: 1, Info: 1, Align: 8, EntSize: 16},
		{Name: ".text", Type: 1, Flags: 3, Align: 1, Data: []byte("x")},
	}
	f, err := published.NewFile(bytes.NewReader(fileOf(t, sections...)))
	if err != nil {
		t.Fatalf("P9.1: %v", err)
	}
	if f.Class != published.ELFCLASS64 || f.Data != published.ELFDATA2LSB || f.Type != published.ET_REL || f.Machine != published.EM_BPF {
		t.Errorf("P9.1: the header says %v", f.FileHeader)
	}
	var got []api.Section
	for _, s := range f.Sections {
		data, err := s.Data()
		if err != nil && s.Type != published.SHT_NULL {
			t.Fatalf("P9.1: section %s: %v", s.Name, err)
		}
		got = append(got, api.Section{
			Name: s.Name, Type: int(s.Type), Flags: int(s.Flags), Link: int(s.Link), Info: int(s.Info),
			Align: int(s.Addralign), EntSize: int(s.Entsize), Data: data,
		})
	}
	names := api.Section{Name: ".shstrtab", Type: 3, Align: 1, Data: []byte("\x00.text\x00.rel\x00.shstrtab\x00")}
	if want := slices.Concat([]api.Section{{}}, sections, []api.Section{names}); !equalSections(got, want) {
		t.Errorf("P9.1: the library reads %v, want %v", got, want)
	}
}

func TestNumbersOfSections(t *testing.T) {
	fields := map[string]func(*api.Section) *int{
		"Type":    func(s *api.Section) *int { return &s.Type },
		"Link":    func(s *api.Section) *int { return &s.Link },
		"Info":    func(s *api.Section) *int { return &s.Info },
		"Flags":   func(s *api.Section) *int { return &s.Flags },
		"Align":   func(s *api.Section) *int { return &s.Align },
		"EntSize": func(s *api.Section) *int { return &s.EntSize },
	}
	values := []int{math.MinInt64, math.MinInt64 + 1, -1 << 32, -1<<31 - 1, -1, 0, 1, 255, 256, 1<<31 - 1, 1 << 31, 1<<32 - 1, 1 << 32, 1<<32 + 1, 1<<63 - 1}
	for name, field := range fields {
		short := name == "Type" || name == "Link" || name == "Info"
		for _, value := range values {
			for at := range 3 {
				sections := []api.Section{named("a", 1), named("b"), named("c", 2)}
				*field(&sections[at]) = value
				want := api.OK
				if value < 0 || short && value > 4294967295 {
					want = api.ErrElfSection
				}
				b, e := Write(sections)
				if e != want || (len(b) == 0) != (e != api.OK) {
					t.Errorf("P9.1: Write with %s %d = %d bytes, %d, want %d", name, value, len(b), e, want)
				}
				checkWrite(t, sections)
				if e == api.OK {
					checkRead(t, name, b)
				}
			}
		}
	}
}

func TestNamesOfSections(t *testing.T) {
	for length := range 140 {
		sections := []api.Section{named("first"), named(strings.Repeat("x", length), 1)}
		checkWrite(t, sections)
		if _, e := Write(sections); (e == api.OK) != (length >= 1 && length <= 64) {
			t.Errorf("P9.1: Write with a name of %d bytes = %d", length, e)
		}
	}
	for c := range 256 {
		for _, name := range []string{string([]byte{byte(c)}), string([]byte{byte(c), 'a'}), string([]byte{'a', byte(c)})} {
			sections := []api.Section{named(name, 1)}
			checkWrite(t, sections)
			if b, e := Write(sections); e == api.OK {
				checkRead(t, strconv.Quote(name), b)
			}
		}
	}
}

func TestManySections(t *testing.T) {
	for count := range 40 {
		b, e := Write(slices.Repeat([]api.Section{named("a", 1)}, count))
		if (e == api.OK) != (count <= 16) || (len(b) > 0) != (count <= 16) || e != api.OK && e != api.ErrElfSection {
			t.Errorf("P9.1: Write of %d sections = %d bytes, %d", count, len(b), e)
		}
	}
	// Seventeen and sixteen right entries, by hand, since Write gives no such file.
	for _, count := range []int{16, 17, 18, 30} {
		parts := slices.Repeat([]part{partOf(named("a"), 1)}, count)
		b := layParts(append(parts, namesPart("\x00a\x00.shstrtab\x00", 3))...)
		checkRead(t, strconv.Itoa(count)+" sections", b)
		if count > 16 {
			checkRefused(t, strconv.Itoa(count)+" sections", b, 60, api.ErrElfHead)
		}
	}
}

// TestEveryByte: each byte of some files with each number.
func TestEveryByte(t *testing.T) {
	for _, sections := range [][]api.Section{nil, {named("a", 7, 8, 9), named("b")}, {named(".shstrtab", 1), named("a", 2)}} {
		b := fileOf(t, sections...)
		for place := range b {
			for n := range 256 {
				checkRead(t, "byte "+strconv.Itoa(place)+" as "+strconv.Itoa(n), changed(b, place, 1, uint64(n)))
			}
		}
	}
}

// fieldAt is a field of the header or of an entry.
type fieldAt struct{ place, width int }

func fieldsOf(b []byte) []fieldAt {
	var list []fieldAt
	add := func(at int, widths ...int) {
		for _, w := range widths {
			list = append(list, fieldAt{at, w})
			at += w
		}
	}
	add(0, 4, 1, 1, 1, 1, 8, 2, 2, 4, 8, 8, 8, 4, 2, 2, 2, 2, 2, 2)
	for at := int(binary.LittleEndian.Uint64(b[40:])); at < len(b); at += 64 {
		add(at, 4, 4, 8, 8, 8, 8, 4, 4, 8, 8)
	}
	return list
}

// turned gives b with a field turned in one way; ways are numbered from 0.
func turned(b []byte, f fieldAt, way int) []byte {
	old := uint64(0)
	for k := range f.width {
		old |= uint64(b[f.place+k]) << (8 * k)
	}
	var values = [...]uint64{
		old + 1, old - 1, old + 2, old + 7, old - 7, old + 8, old - 8, old + 64, old - 64, old + 128, old ^ 0x8000, ^old,
		0, 1, 2, 3, 9, 18, 19, 63, 64, 72, 1 << 15, 1<<16 - 1, 1 << 31, 1<<32 - 1, 1 << 32, 1<<62 + 8, 1<<63 - 1, 1<<63 - 8, 1 << 63, 1<<63 | 1, 1<<64 - 64, 1<<64 - 8, 1<<64 - 1,
		uint64(len(b)), uint64(len(b) - 64), uint64(len(b) - 72),
	}
	if way >= len(values) {
		return nil
	}
	return changed(b, f.place, f.width, values[way])
}

// TestFields: each field with numbers at and beside its bounds, and each two fields so.
func TestFields(t *testing.T) {
	for k, sections := range [][]api.Section{nil, {named("a", 7, 8, 9), named("b")}, {named("a", 1, 2, 3, 4, 5, 6, 7, 8), named("a", 9), named(".shstrtab")}} {
		b := fileOf(t, sections...)
		for _, f := range fieldsOf(b) {
			for way := 0; ; way++ {
				c := turned(b, f, way)
				if c == nil {
					break
				}
				checkRead(t, "field "+strconv.Itoa(f.place)+" turned", c)
				if k == 1 {
					turnSecond(t, c, f, b)
				}
			}
		}
	}
}

// turnSecond turns a further field in c, which is b with the field f turned.
func turnSecond(t *testing.T, c []byte, f fieldAt, b []byte) {
	for n, g := range fieldsOf(b) {
		if g != f {
			checkRead(t, "fields "+strconv.Itoa(f.place)+" and "+strconv.Itoa(g.place)+" turned", turned(c, g, (f.place+5*n)%38))
		}
	}
}

// TestSizesThatFit: entries whose places and sizes are turned together, so that they agree with each other or nearly so.
func TestSizesThatFit(t *testing.T) {
	b := fileOf(t, named("a", 7, 8, 9), named("b", make([]byte, 20)...), named("c"))
	table := int(binary.LittleEndian.Uint64(b[40:]))
	for first := range 60 {
		for second := range 60 {
			c := changed(b, table+64+32, 8, uint64(first))
			place := up(64 + first)
			c = changed(c, table+128+24, 8, uint64(place))
			c = changed(c, table+128+32, 8, uint64(second))
			place = up(place + second)
			c = changed(c, table+192+24, 8, uint64(place))
			c = changed(c, table+256+24, 8, uint64(place))
			for _, size := range []int{table - place - 8, table - place - 7, table - place - 1, table - place, table - place + 1} {
				checkRead(t, "sizes "+strconv.Itoa(first)+", "+strconv.Itoa(second), changed(c, table+256+32, 8, uint64(size)))
			}
		}
	}
}

// TestEnds: every piece that a file begins with, and bytes behind it (P9.3).
func TestEnds(t *testing.T) {
	for _, sections := range [][]api.Section{nil, {named("a", 7, 8, 9), named("b")}, {named("a", make([]byte, 200)...)}} {
		b := fileOf(t, sections...)
		for end := range b {
			checkRead(t, "a file's first "+strconv.Itoa(end), b[:end])
			if _, _, e := Read(b[:end]); e == api.OK {
				t.Errorf("P9.3: the first %d of %d bytes are taken", end, len(b))
			}
		}
		for more := 1; more < 300; more++ {
			for _, c := range [][]byte{
				append(bytes.Clone(b), make([]byte, more)...),
				append(bytes.Clone(b), b[len(b)-min(more, len(b)):]...),
			} {
				checkRead(t, "a file and more", c)
				if _, _, e := Read(c); e == api.OK {
					t.Errorf("P9.3: a file and %d bytes are taken", len(c)-len(b))
				}
			}
		}
	}
}

// TestTableBelowZero: a count for which the table would begin ahead of the bytes, with the number at 40 that wraps round to it.
func TestTableBelowZero(t *testing.T) {
	for _, length := range []int{64, 72, 128, 192, 208, 1024} {
		for _, count := range []int{0, 1, 2, 3, 4, 17, 18, 19, 255, 1 << 15, 1<<16 - 1} {
			b := changed(make([]byte, length), 60, 2, uint64(count))
			copy(b, fileOf(t)[:40])
			copy(b[48:], fileOf(t)[48:60])
			b = changed(b, 40, 8, uint64(length-64*count))
			b = changed(b, 62, 2, uint64(count-1))
			checkRead(t, strconv.Itoa(length)+" bytes, count "+strconv.Itoa(count), b)
		}
	}
}

// TestTablePlaces: bytes put in or taken away ahead of the table, and the number at 40, or the size of the names too, changed with it.
func TestTablePlaces(t *testing.T) {
	b := fileOf(t, named("a", 7, 8, 9), named("b", make([]byte, 30)...))
	table := int(binary.LittleEndian.Uint64(b[40:]))
	size := int(binary.LittleEndian.Uint64(b[len(b)-32:]))
	for more := -table; more <= 40; more++ {
		moved := slices.Concat(b[:table], make([]byte, max(more, 0)))[:table+more]
		moved = append(moved, b[table:]...)
		moved = changed(moved, 40, 8, uint64(table+more))
		what := strconv.Itoa(more) + " bytes more ahead of the table"
		checkRead(t, what, moved)
		checkRead(t, what, changed(moved, len(moved)-32, 8, uint64(size+more)))
		if more%8 != 0 && table+more >= 64 {
			checkRefused(t, what, moved, 40, api.ErrElfHead)
		}
	}
}

// TestNames: files whose layout is right, with many names and places of names.
func TestNames(t *testing.T) {
	long := strings.Repeat("l", 64)
	for _, names := range []string{
		"", "\x00", "\x00\x00", "a", "a\x00", "\x00a", "\x00a\x00", "\x00.shstrtab", ".shstrtab\x00", "\x00.shstrtab\x00", "\x00.shstrtab\x00\x00",
		"\x00a\x00.shstrtab\x00", "\x00a\x00b\x00.shstrtab\x00", "\x00b\x00a\x00.shstrtab\x00", "\x00.shstrtab\x00a\x00", "\x00a\x00a\x00.shstrtab\x00",
		"\x00a\x00.shstrtab\x00b\x00", "\x00a\x00.shstrtab\x00.shstrtab\x00", "\x00a\x00b\x00c\x00.shstrtab\x00", "\x00ab\x00b\x00.shstrtab\x00d\x00e\x00",
		"\x00a\x00\x00.shstrtab\x00", "\x00a\x00.shstrtabs\x00", "\x00a\x00xshstrtab\x00", "\x00a\x00.shstrta\x00", "\x00x.shstrtab\x00", "\x00a\x00.shstrtab",
		"\x00" + long + "\x00.shstrtab\x00", "\x00" + long + "l\x00.shstrtab\x00", "\x00a\x00" + long + "l\x00", "\x00.SHSTRTAB\x00",
	} {
		reach := min(len(names), 22) + 2
		for last := range reach {
			checkRead(t, strconv.Quote(names), layParts(namesPart(names, last)))
			for first := range reach {
				checkRead(t, strconv.Quote(names), layParts(partOf(named("", 1), first), namesPart(names, last)))
				for second := range reach {
					checkRead(t, strconv.Quote(names), layParts(partOf(named("", 1), first), partOf(named(""), second), namesPart(names, last)))
				}
			}
		}
	}
}

// TestNamePlaces: places of names far beyond the names.
func TestNamePlaces(t *testing.T) {
	names := "\x00a\x00.shstrtab\x00"
	for _, place := range []int{1, 3, 12, 13, 14, 255, 257, 1<<16 + 1, 1<<31 - 1, 1 << 31, 1<<31 + 1, 1<<32 - 1} {
		checkRead(t, "a far name", layParts(partOf(named("", 1), place), namesPart(names, 3)))
		checkRead(t, "a far name", layParts(partOf(named("", 1), 1), namesPart(names, place)))
	}
}

// TestFirstFault: of faults of several passes, that of the first pass decides; of one pass the least place.
func TestFirstFault(t *testing.T) {
	b := fileOf(t, named("a", 7, 8, 9), named("b", 1))
	table := int(binary.LittleEndian.Uint64(b[40:]))
	faults := []struct {
		place int
		n     byte
		at    int
		e     api.Errno
	}{
		{3, 'f', 3, api.ErrElfHead},
		{39, 1, 39, api.ErrElfHead},
		{46, 1, 40, api.ErrElfHead},
		{48, 1, 48, api.ErrElfHead},
		{59, 1, 59, api.ErrElfHead},
		{63, 1, 62, api.ErrElfHead},
		{table + 63, 1, table + 56, api.ErrElfSection},
		{table + 64 + 15, 0x80, table + 64 + 8, api.ErrElfSection},
		{table + 64 + 25, 1, table + 64 + 24, api.ErrElfSection},
		{table + 128 + 39, 1, table + 128 + 32, api.ErrElfSection},
		{table + 192 + 4, 2, table + 192 + 4, api.ErrElfSection},
		{table + 192 + 63, 1, table + 192 + 56, api.ErrElfSection},
		{67, 1, 67, api.ErrElfPadding},
		{74, 1, 74, api.ErrElfPadding},
		{table - 1, 1, table - 1, api.ErrElfPadding},
		{80, 1, 80, api.ErrElfSection},
		{83, 'a', 83, api.ErrElfSection},
		{table + 64, 2, table + 64, api.ErrElfSection},
		{table + 128, 9, table + 128, api.ErrElfSection},
		{table + 195, 1, table + 192, api.ErrElfSection},
	}
	for first := range faults {
		for second := first; second < len(faults); second++ {
			c := changed(b, faults[first].place, 1, uint64(faults[first].n))
			c = changed(c, faults[second].place, 1, uint64(faults[second].n))
			what := "faults at " + strconv.Itoa(faults[first].place) + " and " + strconv.Itoa(faults[second].place)
			checkRead(t, what, c)
			checkRefused(t, what, c, faults[first].at, faults[first].e)
		}
	}
}

// TestChance: files with some bytes changed, put in and taken away, and lists of sections, by a fixed row of numbers.
func TestChance(t *testing.T) {
	r := rand.New(rand.NewSource(9))
	pool := []string{"a", "b", "ab", ".shstrtab", ".text", strings.Repeat("z", 64), "\xff\x01"}
	for range 4000 {
		var sections []api.Section
		for range r.Intn(18) {
			sections = append(sections, api.Section{
				Name: pool[r.Intn(len(pool))], Type: r.Intn(1 << 32), Flags: r.Int() >> r.Intn(63), Link: r.Intn(9), Info: r.Intn(9),
				Align: r.Intn(9), EntSize: r.Intn(99), Data: bytes.Repeat([]byte{byte(r.Intn(3))}, r.Intn(30)),
			})
		}
		checkWrite(t, sections)
		b, e := Write(sections)
		if e != api.OK {
			continue
		}
		for range 1 + r.Intn(3) {
			place := r.Intn(len(b))
			switch r.Intn(4) {
			case 0:
				b = slices.Insert(b, place, make([]byte, 8*r.Intn(3))...)
			case 1:
				b = slices.Delete(b, place, min(len(b), place+8*r.Intn(3)))
			default:
				b[place] = byte(r.Intn(4))
			}
			checkRead(t, "a file changed by chance", b)
		}
	}
}

// TestShortInputs: all bytes of few kinds that are too short, and headers of few bytes.
func TestShortInputs(t *testing.T) {
	for length := range 64 {
		checkRefused(t, strconv.Itoa(length)+" bytes", bytes.Repeat([]byte{0x7f}, length), length, api.ErrElfShort)
		checkRefused(t, strconv.Itoa(length)+" bytes", fileOf(t)[:length], length, api.ErrElfShort)
	}
	for length := 64; length < 300; length++ {
		for _, n := range []byte{0, 1, 0x40, 0x7f, 0xff} {
			checkRead(t, "one byte over and over", bytes.Repeat([]byte{n}, length))
		}
	}
}

// TestArgumentsStay: what is handed in is as it was, its spare room too (R4).
func TestArgumentsStay(t *testing.T) {
	for _, sections := range someLists() {
		room := slices.Concat(sections, []api.Section{named("spare", 1), named("room", 2)})
		for k := range room {
			room[k].Data = append(bytes.Clone(room[k].Data), "spare room"...)[:len(room[k].Data)]
		}
		before := slices.Clone(room)
		whole := make([][]byte, len(room))
		for k, s := range room {
			whole[k] = bytes.Clone(s.Data[:cap(s.Data)])
		}
		b := fileOf(t, room[:len(sections)]...)
		for k, s := range room {
			if !equalSection(s, before[k]) || !bytes.Equal(s.Data[:cap(s.Data)], whole[k]) {
				t.Errorf("R4: Write changed section %d of %d", k, len(sections))
			}
		}
		c := append(bytes.Clone(b), "spare room"...)
		d := bytes.Clone(c)
		if _, _, e := Read(c[:len(b)]); e != api.OK || !bytes.Equal(c, d) {
			t.Errorf("R4: Read changed what it was handed, or answered %d", e)
		}
	}
}

// TestNewMemory: answers share nothing with arguments, with each other, or with answers ahead (R4).
func TestNewMemory(t *testing.T) {
	for _, sections := range someLists() {
		b := fileOf(t, sections...)
		want := bytes.Clone(b)
		first, _, _ := Read(b)
		second, _, _ := Read(b)
		spoil(first)
		if !bytes.Equal(b, want) || !equalSections(second, sections) {
			t.Errorf("R4: writing into Read's answer of %d sections changed something else", len(sections))
		}
		for k := range b {
			b[k] ^= 0xff
		}
		if !equalSections(second, sections) {
			t.Errorf("R4: Read's answer of %d sections shares memory with its argument", len(sections))
		}
		if again := fileOf(t, sections...); !bytes.Equal(again, want) {
			t.Errorf("R4: Write's answer of %d sections hangs on the one ahead", len(sections))
		}
	}
	data := []byte{1, 2, 3}
	b := fileOf(t, named("a", data...))
	data[0] = 9
	_ = append(b, 1, 2, 3)
	if b[64] != 1 {
		t.Error("R4: Write's answer shares memory with its argument")
	}
}

// spoil writes into all that an answer has, and behind it; what it writes into one list must not be seen in another.
func spoil(sections []api.Section) {
	for k := range sections {
		for n := range sections[k].Data {
			sections[k].Data[n] ^= 0x55
		}
		_ = append(sections[k].Data, "spoilt spoilt spoilt"...)
	}
	_ = append(sections, named("spoilt"))
	for k := range sections {
		sections[k] = api.Section{Name: "spoilt"}
	}
}

// TestListsApart: no two lists of one answer share memory (R4).
func TestListsApart(t *testing.T) {
	for _, sections := range someLists() {
		got, _, _ := Read(fileOf(t, sections...))
		for k := range got {
			old := bytes.Clone(got[k].Data)
			for n := range got[k].Data {
				got[k].Data[n] ^= 0x55
			}
			_ = append(got[k].Data, "spoilt spoilt spoilt"...)
			for other := range got {
				if other != k && !equalSection(got[other], sections[other]) {
					t.Fatalf("R4: data %d and %d share memory", k, other)
				}
			}
			copy(got[k].Data, old)
		}
	}
}

// TestOneData: sections may share one list of data.
func TestOneData(t *testing.T) {
	data := []byte("0123456789")
	checkWrite(t, []api.Section{named("a", data...), named("b", data[2:5]...), named("c", data[:0]...)})
}

// TestNilAndEmpty: nil and empty lists are one (R1).
func TestNilAndEmpty(t *testing.T) {
	if !bytes.Equal(fileOf(t), fileOf(t, []api.Section{}...)) {
		t.Error("R1: Write of nil and of an empty list differ")
	}
	if !bytes.Equal(fileOf(t, api.Section{Name: "a"}), fileOf(t, api.Section{Name: "a", Data: []byte{}})) {
		t.Error("R1: Write of nil and of empty data differ")
	}
	checkRefused(t, "empty", []byte{}, 0, api.ErrElfShort)
}

// TestLongFiles: sixteen sections of four megabytes each, there and back, and faults at the far end.
func TestLongFiles(t *testing.T) {
	var sections []api.Section
	for k := range 16 {
		sections = append(sections, named("n"+strconv.Itoa(k), bytes.Repeat([]byte{byte(k + 1)}, 1<<22+k)...))
	}
	b := fileOf(t, sections...)
	got, at, e := Read(b)
	if at != 0 || e != api.OK || !equalSections(got, sections) {
		t.Fatalf("P9.3: Read of a long file: %d sections, %d, %d", len(got), at, e)
	}
	table := int(binary.LittleEndian.Uint64(b[40:]))
	if len(b) != table+18*64 {
		t.Fatalf("P9.1: %d bytes, the table at %d", len(b), table)
	}
	b[len(b)-1] = 1
	checkRefused(t, "a long file with a wrong end", b, len(b)-8, api.ErrElfSection)
}

// TestLongNames: very many names in the file, of which no entry has one but the last.
func TestLongNames(t *testing.T) {
	var names strings.Builder
	names.WriteString("\x00.shstrtab\x00")
	for k := range 200000 {
		names.WriteString(strconv.Itoa(k) + "\x00")
	}
	b := layParts(namesPart(names.String(), 1))
	checkRefused(t, "names that are left", b, 64+11, api.ErrElfSection)
	b = layParts(namesPart(names.String()+"x", 1))
	checkRefused(t, "a name without an end", b, 64+names.Len(), api.ErrElfSection)
	b = layParts(namesPart(strings.Repeat("\x00", 1<<24), 1))
	checkRefused(t, "zeros", b, 65, api.ErrElfSection)
}
