package flow

import (
	"maps"
	"slices"

	"spindle/api"
	"spindle/isa"
)

// function is what is known of a function; its instructions are numbered within it.
type function struct {
	slots []int  // of each instruction the slot at which it begins, so this list rises
	steps []step // of each instruction how it goes on
	calls []int  // the functions that it calls, rising
}

// functionOf looks at the instructions of a function of an image that has so many functions.
func functionOf(text []api.Insn, functions int) function {
	f := function{slots: slotsOf(text), steps: make([]step, len(text))}
	callees := map[int]int{}
	for at, i := range text {
		s := step{kind: kindOf(i), target: nowhere}
		if s.branches() {
			s.target = f.startAt(f.slots[at] + 1 + distance(i))
		}
		if s.kind == api.JumpCall && 0 <= i.Imm && i.Imm < functions {
			callees[i.Imm]++
		}
		f.steps[at] = s
	}
	f.calls = slices.Sorted(maps.Keys(callees))
	f.markBlocks()
	return f
}

func slotsOf(text []api.Insn) []int {
	slots := make([]int, 0, len(text))
	slot := 0
	for _, i := range text {
		slots = append(slots, slot)
		slot++
		if isa.Wide(i) {
			slot++
		}
	}
	return slots
}

// startAt gives the number of the instruction that begins at a slot, or nowhere.
func (f function) startAt(slot int) int {
	at, begins := slices.BinarySearch(f.slots, slot)
	if !begins {
		return nowhere
	}
	return at
}

// has tells whether the function has an instruction of that number.
func (f function) has(at int) bool {
	return 0 <= at && at < len(f.steps)
}

// markBlocks marks the instructions at which a block begins.
func (f function) markBlocks() {
	for at, s := range f.steps {
		f.markBlock(s.target)
		if s.ends() {
			f.markBlock(at + 1)
		}
	}
}

func (f function) markBlock(at int) {
	if f.has(at) {
		f.steps[at].begins = true
	}
}

// block gives the block that begins at an instruction.
func (f function) block(first int) api.Block {
	last := first
	for f.has(last+1) && !f.steps[last+1].begins {
		last++
	}
	return api.Block{First: first, Count: last - first + 1, Next: f.steps[last].next(last)}
}
