package tables

import (
	"bytes"
	"slices"

	"spindle/api"
)

// plain is a table as the chapter's words say it: its entries in a list of no order, which is gone through for each call, and the bytes of its region beside it.
type plain struct {
	def     api.TableDef
	first   uint64
	region  []byte
	entries []api.Entry // without values
}

func plainRow(value int) int {
	row := 0
	for row < value {
		row += 8
	}
	return row
}

func plainSizes(d api.TableDef) api.Errno {
	if d.Key < 1 || d.Key > 64 || d.Value < 1 || d.Value > 4096 || d.Entries < 1 || d.Entries > 65536 {
		return api.ErrTablesSize
	}
	if d.Kind == 1 && d.Key != 4 {
		return api.ErrTablesSize
	}
	if d.Entries*(d.Key+plainRow(d.Value)+8) > 16777216 {
		return api.ErrTablesSize
	}
	return api.OK
}

func plainKey(number int) []byte {
	return []byte{byte(number % 256), byte(number / 256 % 256), byte(number / 65536 % 256), byte(number / 16777216 % 256)}
}

// plainOf gives the table of a shape that may be.
func plainOf(d api.TableDef, first uint64) *plain {
	p := &plain{def: d, first: first, region: make([]byte, d.Entries*plainRow(d.Value))}
	if p.isArray() {
		for number := range d.Entries {
			p.entries = append(p.entries, api.Entry{Key: plainKey(number), Place: number})
		}
	}
	return p
}

func (p *plain) isArray() bool { return p.def.Kind == 1 }

// row gives the bytes from an entry's address up to its row's end.
func (p *plain) row(number int) []byte {
	n := plainRow(p.def.Value)
	return p.region[number*n : number*n+n]
}

// withKey gives where in the list the entry with that key stands, or -1.
func (p *plain) withKey(key []byte) int {
	return slices.IndexFunc(p.entries, func(e api.Entry) bool { return bytes.Equal(e.Key, key) })
}

func (p *plain) withNumber(number int) int {
	return slices.IndexFunc(p.entries, func(e api.Entry) bool { return e.Place == number })
}

func (p *plain) come(key, value []byte, number int) {
	p.entries = append(p.entries, api.Entry{Key: slices.Clone(key), Place: number})
	clear(p.row(number))
	copy(p.row(number), value)
}

// wrong gives why the entry number k of a list can't be filled in; those ahead of it can.
func (p *plain) wrong(es []api.Entry, k int) api.Errno {
	e := es[k]
	if k > 0 && e.Place <= es[k-1].Place {
		return api.ErrTablesPlace
	}
	if e.Place < 0 || e.Place > p.def.Entries-1 {
		return api.ErrTablesPlace
	}
	if !p.isArray() && p.withNumber(e.Place) >= 0 {
		return api.ErrTablesPlace
	}
	if len(e.Key) != p.def.Key {
		return api.ErrTablesKey
	}
	if p.isArray() && !bytes.Equal(e.Key, plainKey(e.Place)) {
		return api.ErrTablesKey
	}
	if !p.isArray() && p.withKey(e.Key) >= 0 {
		return api.ErrTablesKey
	}
	for _, ahead := range es[:k] {
		if !p.isArray() && bytes.Equal(ahead.Key, e.Key) {
			return api.ErrTablesKey
		}
	}
	if len(e.Value) != p.def.Value {
		return api.ErrTablesValue
	}
	return api.OK
}

func (p *plain) fill(es []api.Entry) (int, api.Errno) {
	for k := range es {
		if e := p.wrong(es, k); e != api.OK {
			return k, e
		}
	}
	for _, e := range es {
		if p.isArray() {
			copy(p.row(e.Place), e.Value)
		} else {
			p.come(e.Key, e.Value, e.Place)
		}
	}
	return 0, api.OK
}

func (p *plain) lookup(key []byte) (uint64, api.Errno) {
	if len(key) != p.def.Key {
		return 0, api.ErrTablesKey
	}
	k := p.withKey(key)
	if k < 0 {
		return 0, api.OK
	}
	return p.first + uint64(p.entries[k].Place*plainRow(p.def.Value)), api.OK
}

func (p *plain) update(key, value []byte, flags uint64) (int, api.Errno) {
	if len(key) != p.def.Key {
		return 0, api.ErrTablesKey
	}
	if len(value) != p.def.Value {
		return 0, api.ErrTablesValue
	}
	if p.isArray() {
		return p.updateArray(key, value, flags), api.OK
	}
	return p.updateHash(key, value, flags), api.OK
}

func (p *plain) updateArray(key, value []byte, flags uint64) int {
	k := p.withKey(key)
	if k < 0 {
		return -2
	}
	if flags > 2 {
		return -22
	}
	if flags == 1 {
		return -17
	}
	copy(p.row(p.entries[k].Place), value)
	return 0
}

func (p *plain) updateHash(key, value []byte, flags uint64) int {
	k := p.withKey(key)
	if flags > 2 {
		return -22
	}
	if flags == 1 && k >= 0 {
		return -17
	}
	if flags == 2 && k < 0 {
		return -2
	}
	if k >= 0 {
		copy(p.row(p.entries[k].Place), value)
		return 0
	}
	if len(p.entries) == p.def.Entries {
		return -7
	}
	number := 0
	for p.withNumber(number) >= 0 {
		number++
	}
	p.come(key, value, number)
	return 0
}

func (p *plain) delete(key []byte) (int, api.Errno) {
	if len(key) != p.def.Key {
		return 0, api.ErrTablesKey
	}
	if p.isArray() {
		return -22, api.OK
	}
	k := p.withKey(key)
	if k < 0 {
		return -2, api.OK
	}
	p.entries = slices.Delete(p.entries, k, k+1)
	return 0, api.OK
}

func (p *plain) contents() []api.Entry {
	var all []api.Entry
	for number := range p.def.Entries {
		if k := p.withNumber(number); k >= 0 {
			all = append(all, api.Entry{Key: p.entries[k].Key, Value: p.row(number)[:p.def.Value], Place: number})
		}
	}
	return all
}
