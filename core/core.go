// Package core is what both machines run on: registers, memory, tables, draws and fuel, and what an instruction does to them (DOC.md, What a run does; Instructions). Where instructions stand, which one is next, and what a function's name or number means, is each machine's own.
package core

import (
	"cmp"
	"slices"

	"spindle/api"
	"spindle/memory"
	"spindle/tables"
)

// Core is what a run works on.
type Core struct {
	Regs    [Registers]uint64 // those of the alive frame
	Space   *memory.Space     // the context, the frames and the tables' values
	Tables  []*tables.Table   // in the byte order of their names
	Draws   []uint64          // the job's, all of them
	Used    int               // how many were drawn
	Fuel    int               // how much is left
	shapes  []api.TableDef    // those of the tables
	context int               // how many bytes the context has
}

// New gives a core with this context and these draws, with tables without entries, which may be and whose names rise, and without a frame.
func New(ds []api.TableDef, context []byte, draws []uint64) *Core {
	// The regions lie apart, and the tables may be: nothing is refused.
	space, _ := memory.New([]api.Region{{First: api.ContextAt, Data: context}})
	c := &Core{Space: space, Draws: slices.Clone(draws), shapes: slices.Clone(ds), context: len(context)}
	for k, d := range ds {
		t, _ := tables.New(space, d, Handle(k))
		c.Tables = append(c.Tables, t)
	}
	return c
}

// Begin gives a core at the beginning of a run; or what is wrong with the job, and the number of the contents of which it is.
func Begin(ds []api.TableDef, job api.Job) (*Core, int, api.Errno) {
	if e := jobFault(job); e != api.OK {
		return nil, 0, e
	}
	c := New(ds, job.Context, job.Draws)
	if k, e := c.fill(job.Contents); e != api.OK {
		return nil, k, e
	}
	c.Fuel = job.Fuel
	c.Regs[contextReg], c.Regs[lengthReg], c.Regs[TopReg] = api.ContextAt, uint64(c.context), Top(0)
	c.AddFrame(0, make([]byte, api.MaxFrame))
	return c, 0, api.OK
}

// jobFault gives what is wrong with a job, whatever tables there are.
func jobFault(job api.Job) api.Errno {
	switch {
	case len(job.Context) > api.MaxContext:
		return api.ErrMachineContext
	case !IsFuel(job.Fuel):
		return api.ErrMachineFuel
	case len(job.Draws) > api.MaxDraws:
		return api.ErrMachineDraws
	}
	return api.OK
}

// IsFuel tells whether n is a number of steps that a run may make.
func IsFuel(n int) bool {
	return 0 <= n && n <= api.MaxFuel
}

// IsFault tells whether an error is one to which a run may come.
func IsFault(e api.Errno) bool {
	return e == api.FaultMemory || api.FaultInsn <= e && e <= api.FaultDeep
}

// Handle gives the address of the table of a number.
func Handle(k int) uint64 {
	return api.TableAt + uint64(k)*api.TableStep
}

// RegionSize gives how many bytes a table's values take: each takes a multiple of 8.
func RegionSize(d api.TableDef) int {
	return d.Entries * ((d.Value + 7) / 8 * 8)
}

// TableNamed gives the number of the table of that name.
func (c *Core) TableNamed(name string) (int, bool) {
	return slices.BinarySearchFunc(c.shapes, name, func(d api.TableDef, name string) int { return cmp.Compare(d.Name, name) })
}

// fill puts a job's contents into the tables, or gives the number of the first that is wrong, and why.
func (c *Core) fill(cs []api.Contents) (int, api.Errno) {
	filled := make([]bool, len(c.Tables))
	for k, contents := range cs {
		t, found := c.TableNamed(contents.Table)
		switch {
		case !found:
			return k, api.ErrTablesName
		case filled[t]:
			return k, api.ErrTablesTwice
		}
		if _, e := c.Tables[t].Fill(contents.Entries); e != api.OK {
			return k, e
		}
		filled[t] = true
	}
	return 0, api.OK
}

// Burn takes one fuel for a step, if there is any.
func (c *Core) Burn() bool {
	if c.Fuel == 0 {
		return false
	}
	c.Fuel--
	return true
}

// Told gives an outcome with what it tells of the core beside how the run ended.
func (c *Core) Told(o api.Outcome) api.Outcome {
	o.Context, o.Tables = c.Context(), c.contents()
	o.Fuel, o.Draws = c.Fuel, c.Used
	return o
}

// Context gives a copy of the context as it is now.
func (c *Core) Context() []byte {
	return c.BytesAt(api.ContextAt, c.context)
}

// BytesAt gives a copy of bytes that are there.
func (c *Core) BytesAt(at uint64, n int) []byte {
	b, _ := c.Space.Bytes(at, n)
	return b
}

// contents gives the entries of all tables.
func (c *Core) contents() []api.Contents {
	all := make([]api.Contents, 0, len(c.Tables))
	for k, d := range c.shapes {
		all = append(all, api.Contents{Table: d.Name, Entries: c.Entries(k)})
	}
	return all
}

// Entries gives the entries of the table of a number, whose region is always there.
func (c *Core) Entries(k int) []api.Entry {
	es, _ := c.Tables[k].Contents()
	return es
}
