package module

import (
	"spindle/api"
	"spindle/isa"
)

const (
	opJump   = 0x05 // ja
	opJump32 = 0x06 // ja32

	srcTable = 1  // the Src of ldmap
	callImm  = -1 // the Imm of a call of a function
	noBranch = -1 // the Branch of a step that is no branch
)

func isBranch(i api.Insn) bool {
	jumps := isa.Jumps(i)
	return jumps == api.JumpAlways || jumps == api.JumpMaybe
}

// isTableLoad tells whether an instruction is ldmap.
func isTableLoad(i api.Insn) bool {
	return isa.Wide(i) && i.Src == srcTable
}

// labelField gives the field of a branch in whose place its label stands.
func labelField(i api.Insn) int {
	if i.Op == opJump32 {
		return i.Imm
	}
	return i.Off
}

// stepError tells what is wrong in a step of a function that has so many.
func (n names) stepError(s api.Step, size int) api.Errno {
	if e := isa.May(s.Insn); e != api.OK {
		return e
	}
	if !branchFits(s, size) {
		return api.ErrModuleLabel
	}
	if !n.fit(s.Insn, s.Target) {
		return api.ErrModuleName
	}
	return api.OK
}

func branchFits(s api.Step, size int) bool {
	if !isBranch(s.Insn) {
		return s.Branch == noBranch
	}
	return 0 <= s.Branch && s.Branch < size && labelField(s.Insn) == 0
}

func hasEmpty(fs []api.Func) bool {
	for _, f := range fs {
		if len(f.Body) == 0 {
			return true
		}
	}
	return false
}
