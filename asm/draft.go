package asm

import (
	"slices"

	"spindle/api"
	"spindle/isa"
)

const (
	opJump32 = 0x06 // ja32
	noBranch = -1   // the Branch of a step that is no branch
)

// draft is the object of a module that may be, made whatever its sizes are: a branch may lead too far in it, and its text may be too long.
type draft struct {
	object  api.Object
	slots   []int          // the slot at which each instruction begins, and the one behind the last
	numbers map[string]int // what a relocation tells a name by
}

func draftOf(m api.Module) *draft {
	count := stepCount(m)
	d := &draft{
		object: api.Object{
			Text:    make([]api.Insn, 0, count),
			Tables:  slices.Clone(m.Tables),
			Externs: slices.Clone(m.Externs),
		},
		slots:   make([]int, 1, count+1),
		numbers: numbersOf(m),
	}
	for _, f := range m.Funcs {
		d.addFunc(f)
	}
	return d
}

func stepCount(m api.Module) int {
	count := 0
	for _, f := range m.Funcs {
		count += len(f.Body)
	}
	return count
}

// numbersOf needs no more than one map for both kinds of relocations, as the names of a module are one set.
func numbersOf(m api.Module) map[string]int {
	numbers := map[string]int{}
	for k, f := range m.Funcs {
		numbers[f.Name] = k
	}
	for k, name := range m.Externs {
		numbers[name] = len(m.Funcs) + k
	}
	for k, t := range m.Tables {
		numbers[t.Name] = k
	}
	return numbers
}

func (d *draft) addFunc(f api.Func) {
	first := len(d.object.Text)
	d.object.Funcs = append(d.object.Funcs, api.ObjFunc{Name: f.Name, Global: f.Global, First: first, Count: len(f.Body)})
	// All slots of the function come ahead of its first branch, which may lead forward.
	for _, s := range f.Body {
		d.slots = append(d.slots, d.slots[len(d.slots)-1]+slotsOf(s.Insn))
	}
	for _, s := range f.Body {
		d.addStep(s, first)
	}
}

// addStep adds a step of the function whose first instruction has that number.
func (d *draft) addStep(s api.Step, first int) {
	at := len(d.object.Text)
	i := s.Insn
	if s.Branch != noBranch {
		i = withDistance(i, d.slots[first+s.Branch]-d.slots[at+1])
	}
	d.object.Text = append(d.object.Text, i)
	if s.Target != "" {
		d.object.Relocs = append(d.object.Relocs, api.Reloc{At: at, Kind: relocKind(i), Name: d.numbers[s.Target]})
	}
}

func slotsOf(i api.Insn) int {
	if isa.Wide(i) {
		return 2
	}
	return 1
}

func withDistance(i api.Insn, distance int) api.Insn {
	if i.Op == opJump32 {
		i.Imm = distance
	} else {
		i.Off = distance
	}
	return i
}

// relocKind tells the two instructions with a target apart: a call, and ldmap.
func relocKind(i api.Insn) int {
	if isa.Wide(i) {
		return api.RelTable
	}
	return api.RelCall
}
