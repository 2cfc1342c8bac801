package machine

import (
	"spindle/api"
	"spindle/tables"
)

// noHandle is the answer where the first argument is no table's handle, as a word.
const noHandle = 1<<64 - 22

func isHelper(n int) bool {
	return api.HelpLookup <= n && n <= api.HelpDelete
}

// help calls a helper.
func (m *Machine) help(s *step) api.Errno {
	x, e := m.helped(s.Imm)
	if e != api.OK {
		return e
	}
	m.answer(x)
	return api.OK
}

// helped gives what a helper answers. Its arguments are r1 to r4.
func (m *Machine) helped(helper int) (uint64, api.Errno) {
	if helper == api.HelpDraw {
		return m.draw(), api.OK
	}
	k, found := m.tableAt(m.regs[1])
	if !found {
		return noHandle, api.OK
	}
	t, shape := m.tables[k], m.image.Tables[k]
	key, e := m.space.Bytes(m.regs[2], shape.Key)
	switch {
	case e != api.OK:
		return 0, e
	case helper == api.HelpLookup:
		return t.Lookup(key)
	case helper == api.HelpDelete:
		return asWord(t.Delete(key))
	}
	return m.update(t, key, shape.Value)
}

func (m *Machine) update(t *tables.Table, key []byte, size int) (uint64, api.Errno) {
	value, e := m.space.Bytes(m.regs[3], size)
	if e != api.OK {
		return 0, e
	}
	return asWord(t.Update(key, value, m.regs[4]))
}

// asWord gives a table's answer, which may be below 0, as a word.
func asWord(x int, e api.Errno) (uint64, api.Errno) {
	return uint64(x), e
}

// tableAt gives the number of the table with that handle.
func (m *Machine) tableAt(at uint64) (int, bool) {
	// Of an address ahead of all tables this wraps round to a number that is too great.
	k := (at - api.TableAt) / api.TableStep
	if k >= uint64(len(m.tables)) || handle(int(k)) != at {
		return 0, false
	}
	return int(k), true
}

// draw gives the next of the draws; 0, where none is left, which counts too.
func (m *Machine) draw() uint64 {
	k := m.used
	m.used++
	if k >= len(m.draws) {
		return 0
	}
	return m.draws[k]
}
