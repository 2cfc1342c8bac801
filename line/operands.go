package line

import (
	"strconv"

	"spindle/api"
	"spindle/isa"
)

// operand is what stands in one place behind a mnemonic, and which fields it is.
type operand uint8

const (
	noOperand operand = iota
	toDst
	toSrc
	toImm
	toSrcOrImm
	placeOfSrc
	placeOfDst
	toTarget
	toImmOrTarget
)

// What Src says of a call and of the wide opcode: that a name stands in the place of Imm.
const srcNamed = 1

// What Imm holds while a name stands in its place.
const (
	immUnnamed     = 0
	immUnnamedCall = -1
)

// registers are the registers' words, at their numbers.
var registers = [...]string{"r0", "r1", "r2", "r3", "r4", "r5", "r6", "r7", "r8", "r9", "r10"}

// operandsOf gives what stands behind the mnemonic of an instruction, noOperand behind the last.
func operandsOf(i api.Insn) [3]operand {
	use, _ := isa.Info(i.Op)
	switch use.Form {
	case api.FormBinary:
		if carriesSign(i) {
			return [3]operand{toDst, toSrc}
		}
		return [3]operand{toDst, toSrcOrImm}
	case api.FormUnary:
		return [3]operand{toDst}
	case api.FormLoad:
		return [3]operand{toDst, placeOfSrc}
	case api.FormStore, api.FormAtomic:
		if use.Src {
			return [3]operand{placeOfDst, toSrc}
		}
		return [3]operand{placeOfDst, toImm}
	case api.FormJump:
		return [3]operand{toTarget}
	case api.FormBranch:
		return [3]operand{toDst, toSrcOrImm, toTarget}
	case api.FormCall:
		return [3]operand{toImmOrTarget}
	case api.FormWide:
		if i.Src == srcNamed {
			return [3]operand{toDst, toTarget}
		}
		return [3]operand{toDst, toImm}
	}
	return [3]operand{}
}

// carriesSign tells of an arithmetic instruction whether it is movs8 or one of its like, whose operand is never a number.
func carriesSign(i api.Insn) bool {
	return i.Off >= 8
}

// targetFits tells whether an instruction that may be can stand with that target: a name where it has one, and its field then free for it.
func targetFits(i api.Insn, target string) bool {
	use, _ := isa.Info(i.Op)
	switch {
	case use.Form == api.FormJump:
		return isName(target) && i.Off == 0 && i.Imm == 0
	case use.Form == api.FormBranch:
		return isName(target) && i.Off == 0
	case use.Form == api.FormCall && i.Src == srcNamed:
		return isName(target) && i.Imm == immUnnamedCall
	case use.Form == api.FormWide && i.Src == srcNamed:
		return isName(target) && i.Imm == immUnnamed
	}
	return target == ""
}

// operandText gives one operand of an instruction in the one form.
func operandText(i api.Insn, o operand, target string) string {
	switch o {
	case toDst:
		return registers[i.Dst]
	case toSrc:
		return registers[i.Src]
	case toImm:
		return strconv.Itoa(i.Imm)
	case toSrcOrImm:
		if i.Op&sourceBit != 0 {
			return registers[i.Src]
		}
		return strconv.Itoa(i.Imm)
	case placeOfSrc:
		return placeText(i.Src, i.Off)
	case placeOfDst:
		return placeText(i.Dst, i.Off)
	case toImmOrTarget:
		if i.Src != srcNamed {
			return strconv.Itoa(i.Imm)
		}
	}
	return target
}

func placeText(register, off int) string {
	sign := ""
	if off >= 0 {
		sign = "+"
	}
	return "[" + registers[register] + sign + strconv.Itoa(off) + "]"
}
