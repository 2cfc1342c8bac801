package elf

import (
	"bytes"
	"math"

	"spindle/api"
	"spindle/strs"
)

// file is bytes that have a right header, and what the passes behind it find in them.
type file struct {
	bytes   []byte
	table   int // its place
	entries []entry
}

// entry is an entry of the table: where it stands, what it says, and the place of its data.
type entry struct {
	place      int
	section    api.Section
	nameAt     int
	begin, end int
}

// Read: chapter 9.
func Read(b []byte) ([]api.Section, int, api.Errno) {
	if len(b) < headSize {
		return nil, len(b), api.ErrElfShort
	}
	if at, wrong := headFault(b); wrong {
		return nil, at, api.ErrElfHead
	}
	f := file{bytes: b, table: tablePlace(b)}
	if at, wrong := f.takeEntries(); wrong {
		return nil, at, api.ErrElfSection
	}
	if at, wrong := f.paddingFault(); wrong {
		return nil, at, api.ErrElfPadding
	}
	if at, wrong := f.takeNames(); wrong {
		return nil, at, api.ErrElfSection
	}
	return f.sections(), 0, api.OK
}

func countEntries(b []byte) int {
	return int(number(b[60:62]))
}

// tablePlace gives the place at which the table must stand to end the file; it may be below 0.
func tablePlace(b []byte) int {
	return len(b) - entrySize*countEntries(b)
}

func headFault(b []byte) (int, bool) {
	table := none()
	if place := tablePlace(b); place >= headSize && place == nextMultiple(place) {
		table = just(place)
	}
	count := span{2, api.MaxSections + 2}
	return fault(b, head(table, count, just(countEntries(b)-1))...)
}

// takeEntries takes up what the entries say, but for the names.
func (f *file) takeEntries() (int, bool) {
	begin := headSize
	for place := f.table; place < len(f.bytes); place += entrySize {
		b := f.bytes[place : place+entrySize]
		if at, wrong := fault(b, f.rowAt(place, begin).fields()...); wrong {
			return place + at, true
		}
		e := entryOf(b, place, begin)
		f.entries = append(f.entries, e)
		begin = nextMultiple(e.end)
	}
	return 0, false
}

// rowAt says what the entry at a place may be, if its data begin at begin.
func (f *file) rowAt(place, begin int) row {
	room := f.table - begin
	short, long := upTo(math.MaxUint32), upTo(math.MaxInt64)
	switch place {
	case f.table:
		return row{}
	case len(f.bytes) - entrySize:
		// The table stands at the next multiple of 8, so at most 7 bytes of the room are padding.
		size := span{uint64(max(room-7, 0)), uint64(room)}
		return row{name: short, kind: just(namesType), place: just(begin), size: size, align: just(1)}
	}
	return row{
		name: short, kind: short, flags: long,
		place: just(begin), size: upTo(room),
		link: short, info: short, align: long, entSize: long,
	}
}

func entryOf(b []byte, place, begin int) entry {
	n := numbers(b, row{}.fields()...)
	return entry{
		place:   place,
		section: api.Section{Type: n[1], Flags: n[2], Link: n[6], Info: n[7], Align: n[8], EntSize: n[9]},
		nameAt:  n[0],
		begin:   begin,
		end:     begin + n[5],
	}
}

func (f *file) paddingFault() (int, bool) {
	for _, e := range f.entries {
		for place := e.end; place < nextMultiple(e.end); place++ {
			if f.bytes[place] != 0 {
				return place, true
			}
		}
	}
	return 0, false
}

// takeNames takes up the names of the entries. The names must come in the order in which Write adds them, each once.
func (f *file) takeNames() (int, bool) {
	last := len(f.entries) - 1
	names := f.entries[last]
	table, at, e := strs.Read(f.bytes[names.begin:names.end])
	if e != api.OK {
		return names.begin + at, true
	}
	behind := 1
	for k := 1; k <= last; k++ {
		at := f.entries[k].nameAt
		name, e := table.At(at)
		// All names ahead of the place behind are those of entries ahead; at 0 stands none.
		if e != api.OK || at == 0 || at > behind || k == last && name != namesName {
			return f.entries[k].place, true
		}
		if at == behind {
			behind += len(name) + 1
		}
		f.entries[k].section.Name = name
	}
	// Names that no entry has are left.
	left := names.begin + behind
	return left, left < names.end
}

func (f *file) sections() []api.Section {
	found := f.entries[1 : len(f.entries)-1]
	list := make([]api.Section, 0, len(found))
	for _, e := range found {
		e.section.Data = bytes.Clone(f.bytes[e.begin:e.end])
		list = append(list, e.section)
	}
	return list
}
