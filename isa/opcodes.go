package isa

import "spindle/api"

// The opcodes that are asked for one by one.
const (
	opMovSource = 0xbf
	opLittle    = 0xd4
	opBig       = 0xdc
	opSwap      = 0xd7
	opJump      = 0x05
	opJump32    = 0x06
	opCall      = 0x85
	opWide      = 0x18
)

// The parts of an opcode: its class, whether its operand is Src, and what an arithmetic one reckons.
const (
	classBits  = 0x07
	classWide  = 0x00
	classLoad  = 0x01
	classSet   = 0x02
	classStore = 0x03
	class32    = 0x04
	classJump  = 0x05
	classJmp32 = 0x06
	class64    = 0x07

	sourceBit = 0x08

	reckonBits = 0xf0
	reckonMul  = 0x20
	reckonDiv  = 0x30
	reckonMod  = 0x90
	reckonMov  = 0xb0
)

// formless stands for the form of what is no opcode: no form has this number.
const formless = 0

// opcodes holds the opcodes of each form, at the form's number.
var opcodes = [...][]uint8{
	api.FormNone:  {0x95},
	api.FormUnary: {0x84, 0x87, 0xd4, 0xdc, 0xd7},
	api.FormBinary: {
		0x07, 0x17, 0x27, 0x37, 0x47, 0x57, 0x67, 0x77, 0x97, 0xa7, 0xb7, 0xc7,
		0x0f, 0x1f, 0x2f, 0x3f, 0x4f, 0x5f, 0x6f, 0x7f, 0x9f, 0xaf, 0xbf, 0xcf,
		0x04, 0x14, 0x24, 0x34, 0x44, 0x54, 0x64, 0x74, 0x94, 0xa4, 0xb4, 0xc4,
		0x0c, 0x1c, 0x2c, 0x3c, 0x4c, 0x5c, 0x6c, 0x7c, 0x9c, 0xac, 0xbc, 0xcc,
	},
	api.FormLoad:   {0x71, 0x69, 0x61, 0x79, 0x91, 0x89, 0x81},
	api.FormStore:  {0x72, 0x6a, 0x62, 0x7a, 0x73, 0x6b, 0x63, 0x7b},
	api.FormAtomic: {0xdb, 0xc3},
	api.FormJump:   {0x05, 0x06},
	api.FormBranch: {
		0x15, 0x25, 0x35, 0x45, 0x55, 0x65, 0x75, 0xa5, 0xb5, 0xc5, 0xd5,
		0x1d, 0x2d, 0x3d, 0x4d, 0x5d, 0x6d, 0x7d, 0xad, 0xbd, 0xcd, 0xdd,
		0x16, 0x26, 0x36, 0x46, 0x56, 0x66, 0x76, 0xa6, 0xb6, 0xc6, 0xd6,
		0x1e, 0x2e, 0x3e, 0x4e, 0x5e, 0x6e, 0x7e, 0xae, 0xbe, 0xce, 0xde,
	},
	api.FormCall: {0x85},
	api.FormWide: {0x18},
}

// formOf gives the form of an opcode, formless of what is none.
func formOf(op int) int {
	for form, ops := range opcodes {
		for _, o := range ops {
			if int(o) == op {
				return form
			}
		}
	}
	return formless
}

// formOfWhole gives the form of an instruction, formless of one that may not be.
func formOfWhole(i api.Insn) int {
	use, e := Info(i.Op)
	if e != api.OK || !fieldsFit(i, use) {
		return formless
	}
	return use.Form
}

// useOf tells what an opcode of a form is, and which fields its rows use.
func useOf(op, form int) api.Use {
	use := api.Use{Form: form, Group: groupOf(op, form)}
	switch op & classBits {
	case classWide:
		use.Dst, use.Imm = true, true
	case classLoad, classStore:
		use.Dst, use.Src, use.Off = true, true, true
	case classSet:
		use.Dst, use.Off, use.Imm = true, true, true
	case classJump, classJmp32:
		if form != api.FormBranch {
			use.Off = op == opJump
			use.Imm = op == opJump32 || op == opCall
			return use
		}
		use.Off = true
		// A branch has a destination and an operand just as arithmetic does.
		fallthrough
	case class32, class64:
		use.Dst = true
		if form != api.FormUnary {
			use.Src = hasSource(op)
			use.Imm = !use.Src
		}
	}
	return use
}

// groupOf gives the conformance group of an opcode of a form.
func groupOf(op, form int) int {
	switch form {
	case api.FormAtomic:
		return api.GroupAtomic
	case api.FormBinary:
		switch op & reckonBits {
		case reckonMul, reckonDiv, reckonMod:
			return api.GroupDivMul
		}
	}
	return api.GroupBase
}

// hasSource tells of an arithmetic opcode or a branch whether its operand is Src.
func hasSource(op int) bool {
	return op&sourceBit != 0
}

// moves tells of an arithmetic opcode whether it lays the operand without looking at what was there.
func moves(op int) bool {
	return op&reckonBits == reckonMov
}
