package core

import (
	"spindle/api"
	"spindle/tables"
)

// noHandle is the answer where the first argument is no table's handle, as a word.
const noHandle = 1<<64 - 22

func isHelper(n int) bool {
	return api.HelpLookup <= n && n <= api.HelpDelete
}

// help calls a helper.
func (c *Core) help(s *Step) api.Errno {
	x, e := c.helped(s.Imm)
	if e != api.OK {
		return e
	}
	c.answer(x)
	return api.OK
}

// helped gives what a helper answers. Its arguments are r1 to r4.
func (c *Core) helped(helper int) (uint64, api.Errno) {
	if helper == api.HelpDraw {
		return c.draw(), api.OK
	}
	k, found := c.tableAt(c.Regs[1])
	if !found {
		return noHandle, api.OK
	}
	t, shape := c.Tables[k], c.shapes[k]
	key, e := c.Space.Bytes(c.Regs[2], shape.Key)
	switch {
	case e != api.OK:
		return 0, e
	case helper == api.HelpLookup:
		return t.Lookup(key)
	case helper == api.HelpDelete:
		return asWord(t.Delete(key))
	}
	return c.update(t, key, shape.Value)
}

func (c *Core) update(t *tables.Table, key []byte, size int) (uint64, api.Errno) {
	value, e := c.Space.Bytes(c.Regs[3], size)
	if e != api.OK {
		return 0, e
	}
	return asWord(t.Update(key, value, c.Regs[4]))
}

// asWord gives a table's answer, which may be below 0, as a word.
func asWord(x int, e api.Errno) (uint64, api.Errno) {
	return uint64(x), e
}

// tableAt gives the number of the table with that handle.
func (c *Core) tableAt(at uint64) (int, bool) {
	// Of an address ahead of all tables this wraps round to a number that is too great.
	k := (at - api.TableAt) / api.TableStep
	if k >= uint64(len(c.Tables)) || Handle(int(k)) != at {
		return 0, false
	}
	return int(k), true
}

// draw gives the next of the draws; 0, where none is left, which counts too.
func (c *Core) draw() uint64 {
	k := c.Used
	c.Used++
	if k >= len(c.Draws) {
		return 0
	}
	return c.Draws[k]
}
