package flow

import (
	"slices"

	"spindle/api"
	"spindle/isa"
)

// nowhere is the target of a branch that leads to no instruction of its function.
const nowhere = -1

const opJump32 = 0x06 // ja32

// step is how an instruction goes on.
type step struct {
	kind   int  // as isa.Jumps tells it, but JumpExit of an instruction that may not be
	target int  // of a branch, else nowhere
	begins bool // a block begins here; not asked of the first, where one always does
}

// kindOf tells how an instruction goes on. One that may not be has no next place, just as an exit has none.
func kindOf(i api.Insn) int {
	if isa.May(i) != api.OK {
		return api.JumpExit
	}
	return isa.Jumps(i)
}

// distance gives how many slots a branch leads on from the one behind it.
func distance(i api.Insn) int {
	if i.Op == opJump32 {
		return i.Imm
	}
	return i.Off
}

// branches tells whether the instruction has a target.
func (s step) branches() bool {
	return s.kind == api.JumpAlways || s.kind == api.JumpMaybe
}

// ends tells whether no block goes on behind the instruction.
func (s step) ends() bool {
	return s.branches() || s.kind == api.JumpExit
}

// next gives the next places of the instruction, which has that number, rising, each once.
func (s step) next(at int) []int {
	switch s.kind {
	case api.JumpExit:
		return nil
	case api.JumpAlways:
		return []int{s.target}
	case api.JumpMaybe:
		places := []int{s.target, at + 1}
		slices.Sort(places)
		return slices.Compact(places)
	}
	return []int{at + 1}
}
