package image

import (
	"spindle/api"
	"spindle/strs"
)

// reader is bytes that are read as an image, and what the passes so far have found in them.
type reader struct {
	tape
	head  head
	names *strs.Table
	next  int // the place right behind the names of the entries so far
	image api.Image
}

// passes gives the passes over the bytes, in their order. Each tells the place of the first fault that it finds, and whether there is one.
func passes() []func(*reader) (int, bool) {
	return []func(*reader) (int, bool){
		(*reader).takeHead,
		(*reader).takeText,
		(*reader).takeNames,
		(*reader).takeEntries,
	}
}

func (r *reader) takeHead() (int, bool) {
	if len(r.bytes) < headSize {
		return len(r.bytes), true
	}
	for place := range len(opening) {
		if r.bytes[place] != opening[place] {
			return place, true
		}
	}
	r.at = len(opening)
	r.numbers(r.head.fields()...)
	r.image.Entry = r.head.entry
	return len(opening), r.head.size() != len(r.bytes)
}

func (r *reader) takeText() (int, bool) {
	r.image.Text = make([]api.Insn, 0, r.head.slots)
	end := r.at + slotSize*r.head.slots
	for r.at < end {
		i, place, wrong := r.takeInsn(end)
		if wrong {
			return place, true
		}
		r.image.Text = append(r.image.Text, i)
	}
	return 0, false
}

// stringsAt is where the strings begin: they are the last that there is.
func (r *reader) stringsAt() int {
	return len(r.bytes) - r.head.strings
}

func (r *reader) takeNames() (int, bool) {
	names, place, e := strs.Read(r.bytes[r.stringsAt():])
	r.names, r.next = names, 1
	return r.stringsAt() + place, e != api.OK
}

func (r *reader) takeEntries() (int, bool) {
	if place, wrong := r.takeFuncs(); wrong {
		return place, true
	}
	if place, wrong := r.takeTables(); wrong {
		return place, true
	}
	return r.stringsAt() + r.next, r.next < r.head.strings
}

func (r *reader) takeFuncs() (int, bool) {
	r.image.Funcs = make([]api.ImgFunc, 0, r.head.funcs)
	first, slot := 0, 0
	for range r.head.funcs {
		place := r.at
		var row funcRow
		r.numbers(row.fields()...)
		name, found := r.takeName(row.name)
		if !found {
			return place, true
		}
		if row.first != slot {
			return place + firstAt, true
		}
		count, whole := countOf(r.image.Text[first:], row.count)
		if !whole {
			return place + countAt, true
		}
		r.image.Funcs = append(r.image.Funcs, api.ImgFunc{Name: name, Object: row.object, First: first, Count: count})
		first += count
		slot += row.count
	}
	return 0, false
}

func (r *reader) takeTables() (int, bool) {
	r.image.Tables = make([]api.TableDef, 0, r.head.tables)
	for range r.head.tables {
		place := r.at
		var row tableRow
		r.numbers(row.fields()...)
		name, found := r.takeName(row.name)
		if !found {
			return place, true
		}
		r.image.Tables = append(r.image.Tables, api.TableDef{Name: name, Kind: row.kind, Key: row.key, Value: row.value, Entries: row.entries})
	}
	return 0, false
}

// takeName gives the name at a place, which is one of an entry ahead, or else the next new one: so names stand in the order in which entries first have them.
func (r *reader) takeName(place int) (string, bool) {
	if place < 1 || place > r.next {
		return "", false
	}
	name, e := r.names.At(place)
	if e != api.OK {
		return "", false
	}
	if place == r.next {
		r.next += len(name) + 1
	}
	return name, true
}

// countOf tells how many instructions at the front of a text take just so many slots, and whether there are such.
func countOf(text []api.Insn, slots int) (int, bool) {
	count, taken := 0, 0
	for taken < slots && count < len(text) {
		taken += slotsOf(text[count])
		count++
	}
	return count, taken == slots && slots > 0
}
