package core

import (
	"slices"

	"spindle/api"
	"spindle/isa"
)

// Step is an instruction, and what is found out about it ahead of doing it.
type Step struct {
	api.Insn
	width    int  // with how many bits it works
	bySource bool // its operand is Src, else Imm
}

// StepOf gives the step of an instruction.
func StepOf(i api.Insn) Step {
	return Step{Insn: i, width: widthOf(i.Op), bySource: hasSource(i.Op)}
}

// Fault gives the structural fault of an instruction that hangs on nothing else, or OK.
func Fault(i api.Insn) api.Errno {
	switch {
	case isa.May(i) != api.OK:
		return api.FaultInsn
	case slices.Contains(isa.Writes(i), TopReg):
		return api.FaultWrite
	case i.Op == opCall && i.Src == srcHelper && !isHelper(i.Imm):
		return api.FaultHelper
	}
	return api.OK
}

// deed does what an instruction says; where a fault is given nothing has changed.
type deed func(*Core, *Step) api.Errno

// Do does an instruction that has no structural fault, and is no branch, no call of a function and no exit; or gives the memory fault. The immediate of an ldmap is the table's number.
func (c *Core) Do(s *Step) api.Errno {
	return deedOf(s)(c, s)
}

// deedOf gives what does an instruction.
func deedOf(s *Step) deed {
	switch s.Op & classBits {
	case classWide:
		return (*Core).layWide
	case classLoad:
		return (*Core).load
	case classStore:
		if s.Op&modeBits == modeAtomic {
			return (*Core).exchange
		}
		fallthrough
	case classSet:
		return (*Core).store
	case classJump:
		return (*Core).help
	default:
		if s.Op&whatBits == whatOrder {
			return (*Core).order
		}
		return (*Core).reckon
	}
}

// widthOf gives with how many bits an instruction works; those that order bytes tell it by their Imm.
func widthOf(op int) int {
	switch op & classBits {
	case classLoad, classSet, classStore:
		return sizeOf(op)
	case class32, classJump32:
		return 32
	}
	return 64
}

// sizeOf gives how many bits a load, a store or an atomic works with.
func sizeOf(op int) int {
	switch op & sizeBits {
	case size8:
		return 8
	case size16:
		return 16
	case size32:
		return 32
	}
	return 64
}

// hasSource tells whether an instruction's operand is Src: of a store its class says so, of arithmetic and branches a bit.
func hasSource(op int) bool {
	switch op & classBits {
	case classSet:
		return false
	case classStore:
		return true
	}
	return op&sourceBit != 0
}
