package isa

import (
	"math"

	"spindle/api"
)

const (
	lastRegister = 10

	// What Src says of a call and of the wide opcode, neither of which has a source.
	srcNumber   = 0
	srcFunction = 1
	srcTable    = 1

	// An atomic whose Imm has this bit puts what was there into a register.
	fetchBit        = 0x01
	compareExchange = 0xf1
)

// atomicImms are the Imms of the atomic instructions.
var atomicImms = [...]uint8{0x00, 0x40, 0x50, 0xa0, 0x01, 0x41, 0x51, 0xa1, 0xe1, compareExchange}

// fieldsFit tells of an instruction whose opcode has that use whether a row of the table takes its other fields.
func fieldsFit(i api.Insn, use api.Use) bool {
	return dstFits(i, use) && srcFits(i, use) && offFits(i, use) && immFits(i, use)
}

func dstFits(i api.Insn, use api.Use) bool {
	if use.Dst {
		return isRegister(i.Dst)
	}
	return i.Dst == 0
}

func srcFits(i api.Insn, use api.Use) bool {
	switch {
	case use.Src:
		return isRegister(i.Src)
	case use.Form == api.FormCall:
		return i.Src == srcNumber || i.Src == srcFunction
	case use.Form == api.FormWide:
		return i.Src == srcNumber || i.Src == srcTable
	}
	return i.Src == 0
}

func offFits(i api.Insn, use api.Use) bool {
	switch {
	case use.Off:
		return math.MinInt16 <= i.Off && i.Off <= math.MaxInt16
	case i.Off == 0:
		return true
	case use.Form == api.FormBinary:
		return isVariant(i.Op, i.Off)
	}
	return false
}

// isVariant tells whether an Off that is not 0 makes another instruction of an arithmetic opcode.
func isVariant(op, off int) bool {
	switch op & reckonBits {
	case reckonDiv, reckonMod:
		return off == 1
	case reckonMov:
		return hasSource(op) && (off == 8 || off == 16 || off == 32 && op == opMovSource)
	}
	return false
}

func immFits(i api.Insn, use api.Use) bool {
	switch {
	case use.Form == api.FormWide && i.Src == srcNumber:
		return true
	case use.Imm:
		return math.MinInt32 <= i.Imm && i.Imm <= math.MaxInt32
	case use.Form == api.FormAtomic:
		return isAtomicImm(i.Imm)
	case ordersBytes(i.Op):
		return i.Imm == 16 || i.Imm == 32 || i.Imm == 64
	}
	return i.Imm == 0
}

// ordersBytes tells whether an opcode is that of le16, be16, swap16 and their like.
func ordersBytes(op int) bool {
	return op == opLittle || op == opBig || op == opSwap
}

func isAtomicImm(n int) bool {
	for _, imm := range atomicImms {
		if int(imm) == n {
			return true
		}
	}
	return false
}

func isRegister(n int) bool {
	return 0 <= n && n <= lastRegister
}
