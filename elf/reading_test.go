package elf

import (
	"bytes"
	published "debug/elf"
	"encoding/binary"
	"math/big"
	"slices"
	"strings"

	"spindle/api"
)

// part is an entry and its data, as they are to be laid; nothing of it need be right.
type part struct {
	entry published.Section64
	data  []byte
}

// up gives the next multiple of 8 from a place.
func up(place int) int {
	for place%8 != 0 {
		place++
	}
	return place
}

// layParts lays the parts into a file, the last one as the names. Place and size of each entry are filled in.
func layParts(parts ...part) []byte {
	body := make([]byte, 64)
	table := make([]byte, 64)
	for _, p := range parts {
		p.entry.Off, p.entry.Size = uint64(len(body)), uint64(len(p.data))
		table = binaryOf(table, p.entry)
		body = append(body, p.data...)
		body = append(body, make([]byte, up(len(body))-len(body))...)
	}
	head := published.Header64{
		Ident:     [16]byte{0x7f, 'E', 'L', 'F', 2, 1, 1},
		Type:      1,
		Machine:   247,
		Version:   1,
		Shoff:     uint64(len(body)),
		Ehsize:    64,
		Shentsize: 64,
		Shnum:     uint16(len(parts) + 1),
		Shstrndx:  uint16(len(parts)),
	}
	copy(body, binaryOf(nil, head))
	return append(body, table...)
}

func binaryOf(b []byte, x any) []byte {
	b, err := binary.Append(b, binary.LittleEndian, x)
	if err != nil {
		panic(err)
	}
	return b
}

func partOf(s api.Section, nameAt int) part {
	return part{published.Section64{
		Name: uint32(nameAt), Type: uint32(s.Type), Flags: uint64(s.Flags), Link: uint32(s.Link), Info: uint32(s.Info),
		Addralign: uint64(s.Align), Entsize: uint64(s.EntSize),
	}, s.Data}
}

func namesPart(names string, nameAt int) part {
	return partOf(api.Section{Type: 3, Align: 1, Data: []byte(names)}, nameAt)
}

// namesPlain gives the names of a file of these sections.
func namesPlain(sections []api.Section) string {
	names := "\x00"
	for _, s := range slices.Concat(sections, []api.Section{{Name: ".shstrtab"}}) {
		if !strings.Contains(names, "\x00"+s.Name+"\x00") {
			names += s.Name + "\x00"
		}
	}
	return names
}

func mayPlain(s api.Section) bool {
	for _, n := range []int{s.Type, s.Link, s.Info} {
		if n < 0 || n > 4294967295 {
			return false
		}
	}
	return s.Flags >= 0 && s.Align >= 0 && s.EntSize >= 0 && len(s.Name) >= 1 && len(s.Name) <= 64 && !strings.Contains(s.Name, "\x00")
}

// writePlain is Write by the chapter's words.
func writePlain(sections []api.Section) ([]byte, api.Errno) {
	if len(sections) > 16 {
		return nil, api.ErrElfSection
	}
	for _, s := range sections {
		if !mayPlain(s) {
			return nil, api.ErrElfSection
		}
	}
	names := namesPlain(sections)
	var parts []part
	for _, s := range sections {
		parts = append(parts, partOf(s, strings.Index(names, "\x00"+s.Name+"\x00")+1))
	}
	parts = append(parts, namesPart(names, strings.Index(names, "\x00.shstrtab\x00")+1))
	return layParts(parts...), api.OK
}

// plainFile is a file that is looked at by the chapter's words: each pass gives the places of all faults that it finds.
type plainFile struct {
	b       []byte
	head    published.Header64
	entries []published.Section64
}

// readPlain is Read by the chapter's words.
func readPlain(b []byte) ([]api.Section, int, api.Errno) {
	if len(b) < 64 {
		return nil, len(b), api.ErrElfShort
	}
	f := &plainFile{b: b}
	for _, pass := range []struct {
		faults func() []int
		e      api.Errno
	}{
		{f.headFaults, api.ErrElfHead},
		{f.entryFaults, api.ErrElfSection},
		{f.paddingFaults, api.ErrElfPadding},
		{f.stringFaults, api.ErrElfSection},
		{f.nameFaults, api.ErrElfSection},
	} {
		if places := pass.faults(); len(places) > 0 {
			return nil, slices.Min(places), pass.e
		}
	}
	return f.sections(), 0, api.OK
}

func (f *plainFile) headFaults() []int {
	var places []int
	if err := binary.Read(bytes.NewReader(f.b), binary.LittleEndian, &f.head); err != nil {
		panic(err)
	}
	fixed := "\x7fELF\x02\x01\x01" + strings.Repeat("\x00", 9) + "\x01\x00\xf7\x00\x01\x00\x00\x00" + strings.Repeat("\x00", 16) +
		"........" + "\x00\x00\x00\x00" + "\x40\x00\x00\x00\x00\x00\x40\x00" + "...."
	for place := range 64 {
		free := place >= 40 && place < 48 || place >= 60
		if !free && f.b[place] != fixed[place] {
			places = append(places, place)
		}
	}
	count := int64(f.head.Shnum)
	table := new(big.Int).SetUint64(f.head.Shoff)
	want := new(big.Int).Sub(big.NewInt(int64(len(f.b))), new(big.Int).Mul(big.NewInt(64), big.NewInt(count)))
	if table.Cmp(want) != 0 || table.Cmp(big.NewInt(64)) < 0 || new(big.Int).Mod(table, big.NewInt(8)).Sign() != 0 {
		places = append(places, 40)
	}
	if count < 2 || count > 18 {
		places = append(places, 60)
	}
	if int64(f.head.Shstrndx) != count-1 {
		places = append(places, 62)
	}
	return places
}

func (f *plainFile) entryPlace(k int) int {
	return int(f.head.Shoff) + 64*k
}

// entryFaults stops behind the first entry with a fault, as the sizes of further ones mean nothing.
func (f *plainFile) entryFaults() []int {
	f.entries = make([]published.Section64, f.head.Shnum)
	if err := binary.Read(bytes.NewReader(f.b[f.head.Shoff:]), binary.LittleEndian, f.entries); err != nil {
		panic(err)
	}
	end := 64
	for k, s := range f.entries {
		var wrong []int
		if k == 0 {
			wrong = zeroFaults(s)
		} else {
			wrong = f.sectionFaults(s, up(end), k == len(f.entries)-1)
		}
		if len(wrong) > 0 {
			return []int{f.entryPlace(k) + slices.Min(wrong)}
		}
		if k > 0 {
			end = up(end) + int(s.Size)
		}
	}
	return nil
}

func zeroFaults(s published.Section64) []int {
	var wrong []int
	values := []uint64{uint64(s.Name), uint64(s.Type), s.Flags, s.Addr, s.Off, s.Size, uint64(s.Link), uint64(s.Info), s.Addralign, s.Entsize}
	for k, at := range []int{0, 4, 8, 16, 24, 32, 40, 44, 48, 56} {
		if values[k] != 0 {
			wrong = append(wrong, at)
		}
	}
	return wrong
}

func (f *plainFile) sectionFaults(s published.Section64, begin int, last bool) []int {
	var wrong []int
	put := func(at int, is bool) {
		if is {
			wrong = append(wrong, at)
		}
	}
	table := f.head.Shoff
	long := s.Size > table-uint64(begin)
	put(8, s.Flags >= 1<<63)
	put(48, s.Addralign >= 1<<63)
	put(56, s.Entsize >= 1<<63)
	put(16, s.Addr != 0)
	put(24, s.Off != uint64(begin))
	put(32, long)
	if last {
		put(32, !long && up(begin+int(s.Size)) != int(table))
		put(4, s.Type != 3)
		put(8, s.Flags != 0)
		put(40, s.Link != 0)
		put(44, s.Info != 0)
		put(48, s.Addralign != 1)
		put(56, s.Entsize != 0)
	}
	return wrong
}

func (f *plainFile) paddingFaults() []int {
	covered := make([]bool, f.head.Shoff)
	for k := range 64 {
		covered[k] = true
	}
	for _, s := range f.entries[1:] {
		for k := s.Off; k < s.Off+s.Size; k++ {
			covered[k] = true
		}
	}
	var places []int
	for k, is := range covered {
		if !is && f.b[k] != 0 {
			places = append(places, k)
		}
	}
	return places
}

// names gives the place and the bytes of the names.
func (f *plainFile) names() (int, string) {
	s := f.entries[len(f.entries)-1]
	return int(s.Off), string(f.b[s.Off : s.Off+s.Size])
}

// stringFaults tells where the names are none by chapter 8.
func (f *plainFile) stringFaults() []int {
	at, names := f.names()
	if names == "" || names[0] != 0 {
		return []int{at}
	}
	if names == "\x00" {
		return nil
	}
	list := strings.Split(names[1:], "\x00")
	place := at + 1
	for k, name := range list {
		if k == len(list)-1 && name == "" {
			break
		}
		if k == len(list)-1 || name == "" || len(name) > 64 || slices.Contains(list[:k], name) {
			return []int{place}
		}
		place += len(name) + 1
	}
	return nil
}

// nameOf gives the name that begins at a place of the names, empty where none does.
func nameOf(names string, place int) string {
	if place < 1 || place >= len(names) || names[place-1] != 0 {
		return ""
	}
	name, _, _ := strings.Cut(names[place:], "\x00")
	return name
}

func (f *plainFile) nameFaults() []int {
	at, names := f.names()
	ahead := map[int]bool{}
	behind := 1
	for k := 1; k < len(f.entries); k++ {
		place := int(f.entries[k].Name)
		name := nameOf(names, place)
		last := k == len(f.entries)-1
		if !ahead[place] && place != behind || name == "" || last && name != ".shstrtab" {
			return []int{f.entryPlace(k)}
		}
		ahead[place] = true
		behind = max(behind, place+len(name)+1)
	}
	if behind < len(names) {
		return []int{at + behind}
	}
	return nil
}

func (f *plainFile) sections() []api.Section {
	_, names := f.names()
	var list []api.Section
	for _, s := range f.entries[1 : len(f.entries)-1] {
		list = append(list, api.Section{
			Name: nameOf(names, int(s.Name)), Type: int(s.Type), Flags: int(s.Flags), Link: int(s.Link), Info: int(s.Info),
			Align: int(s.Addralign), EntSize: int(s.Entsize), Data: f.b[s.Off : s.Off+s.Size],
		})
	}
	return list
}
