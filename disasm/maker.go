package disasm

import (
	"slices"

	"spindle/api"
	"spindle/isa"
)

// noBranch is the Branch of a step that is no branch.
const noBranch = -1

// maker makes the module of an object that may be, instruction by instruction.
type maker struct {
	object api.Object
	module api.Module
	insnAt map[int]int // of each slot at which an instruction begins, the instruction's number
	behind int         // the slot behind the instructions that are taken
	relocs []api.Reloc // those of the instructions that are not taken yet
}

func newMaker(o api.Object) *maker {
	return &maker{
		object: o,
		module: api.Module{
			Funcs:   make([]api.Func, 0, len(o.Funcs)),
			Tables:  slices.Clone(o.Tables),
			Externs: slices.Clone(o.Externs),
		},
		insnAt: insnsBySlot(o.Text),
		relocs: o.Relocs,
	}
}

func insnsBySlot(is []api.Insn) map[int]int {
	insnAt := make(map[int]int, len(is))
	slot := 0
	for number, i := range is {
		insnAt[slot] = number
		slot += slotsOf(i)
	}
	return insnAt
}

func slotsOf(i api.Insn) int {
	if isa.Wide(i) {
		return 2
	}
	return 1
}

// addFunc adds a function, or tells the number of its first branch that leads to no instruction of it.
func (m *maker) addFunc(f api.ObjFunc) (int, api.Errno) {
	body := make([]api.Step, 0, f.Count)
	for number := f.First; number < f.First+f.Count; number++ {
		step, e := m.takeStep(number, f)
		if e != api.OK {
			return number, e
		}
		body = append(body, step)
	}
	m.module.Funcs = append(m.module.Funcs, api.Func{Name: f.Name, Global: f.Global, Body: body})
	return 0, api.OK
}

// takeStep takes the next instruction, which has that number and is of that function.
func (m *maker) takeStep(number int, f api.ObjFunc) (api.Step, api.Errno) {
	i := m.object.Text[number]
	m.behind += slotsOf(i)
	if !isBranch(i) {
		return api.Step{Insn: i, Target: m.takeTarget(number), Branch: noBranch}, api.OK
	}
	to, begins := m.insnAt[m.behind+distance(i)]
	if !begins || to < f.First || to >= f.First+f.Count {
		return api.Step{}, api.ErrDisasmFlow
	}
	return api.Step{Insn: withoutDistance(i), Branch: to - f.First}, api.OK
}

// takeTarget gives the name that the instruction with that number means, and none where it means none. Relocations stand in the order of their instructions, so that only the next one can be its own.
func (m *maker) takeTarget(number int) string {
	if len(m.relocs) == 0 || m.relocs[0].At != number {
		return ""
	}
	r := m.relocs[0]
	m.relocs = m.relocs[1:]
	return nameOf(m.object, r)
}

func nameOf(o api.Object, r api.Reloc) string {
	switch {
	case r.Kind == api.RelTable:
		return o.Tables[r.Name].Name
	case r.Name < len(o.Funcs):
		return o.Funcs[r.Name].Name
	}
	return o.Externs[r.Name-len(o.Funcs)]
}
