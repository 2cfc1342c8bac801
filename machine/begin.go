package machine

import (
	"spindle/api"
	"spindle/memory"
	"spindle/tables"
)

// jobFault gives what is wrong with a job, whatever the image is.
func jobFault(job api.Job) api.Errno {
	switch {
	case len(job.Context) > api.MaxContext:
		return api.ErrMachineContext
	case !isFuel(job.Fuel):
		return api.ErrMachineFuel
	case len(job.Draws) > api.MaxDraws:
		return api.ErrMachineDraws
	}
	return api.OK
}

// isFuel tells whether n is a number of steps that a run may make.
func isFuel(n int) bool {
	return 0 <= n && n <= api.MaxFuel
}

// machineOf gives a machine over an image that may be, which has its tables without entries, and no frame yet.
func machineOf(im api.Image, context []byte, draws []uint64) *Machine {
	// The regions lie apart, and a table of such an image has a shape that may be: nothing is refused.
	space, _ := memory.New([]api.Region{{First: api.ContextAt, Data: context}})
	m := &Machine{program: programOf(im), space: space, context: len(context), draws: append([]uint64(nil), draws...)}
	for k, d := range im.Tables {
		t, _ := tables.New(space, d, handle(k))
		m.tables = append(m.tables, t)
	}
	return m
}

// handle gives the address of the table of a number.
func handle(k int) uint64 {
	return api.TableAt + uint64(k)*api.TableStep
}

// fill puts a job's contents into the tables, or gives the number of the first that is wrong, and why.
func (m *Machine) fill(cs []api.Contents) (int, api.Errno) {
	filled := make([]bool, len(m.tables))
	for k, c := range cs {
		t, found := m.tableNamed(c.Table)
		switch {
		case !found:
			return k, api.ErrTablesName
		case filled[t]:
			return k, api.ErrTablesTwice
		}
		if _, e := m.tables[t].Fill(c.Entries); e != api.OK {
			return k, e
		}
		filled[t] = true
	}
	return 0, api.OK
}

// begin puts the machine at the beginning of the run.
func (m *Machine) begin(fuel int) {
	m.fuel = fuel
	m.frame = frame{function: m.image.Entry}
	m.regs[contextReg], m.regs[lengthReg], m.regs[topReg] = api.ContextAt, uint64(m.context), top(0)
	m.addFrame(0, make([]byte, api.MaxFrame))
}
