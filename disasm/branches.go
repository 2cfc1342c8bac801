package disasm

import (
	"spindle/api"
	"spindle/isa"
)

const opJump32 = 0x06 // ja32

func isBranch(i api.Insn) bool {
	jumps := isa.Jumps(i)
	return jumps == api.JumpAlways || jumps == api.JumpMaybe
}

// distance gives how many slots behind the next instruction a branch leads.
func distance(i api.Insn) int {
	if i.Op == opJump32 {
		return i.Imm
	}
	return i.Off
}

// withoutDistance gives a branch as a module has it, where a label stands for the distance.
func withoutDistance(i api.Insn) api.Insn {
	if i.Op == opJump32 {
		i.Imm = 0
	} else {
		i.Off = 0
	}
	return i
}
