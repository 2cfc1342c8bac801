package code

import (
	"spindle/api"
	"spindle/isa"
)

// Where the fields of a slot begin.
const (
	registersAt = 1
	offAt       = 2
	immAt       = 4
)

// A register's number takes half a byte.
const (
	registerBits = 4
	registerMask = 1<<registerBits - 1
)

// halfBits is how many bits of a wide instruction's Imm its first slot has.
const halfBits = 32

// layInsn lays the bytes of an instruction that may be at the front of b, which is still all zeros, and tells how many they are.
func layInsn(b []byte, i api.Insn) int {
	imm := uint64(i.Imm)
	layNumber(b, uint64(i.Op), 1)
	layNumber(b[registersAt:], uint64(i.Src<<registerBits|i.Dst), 1)
	layNumber(b[offAt:], uint64(i.Off), 2)
	layNumber(b[immAt:], imm, 4)
	if !isa.Wide(i) {
		return slotSize
	}
	layNumber(b[slotSize+immAt:], imm>>halfBits, 4)
	return 2 * slotSize
}

// takeInsn takes up the instruction at the front of b, and tells how many bytes it has.
func takeInsn(b []byte) (api.Insn, int, api.Errno) {
	if len(b) < slotSize {
		return api.Insn{}, 0, api.ErrCodeCut
	}
	i, size := takeSlot(b), slotSize
	if isa.Wide(i) {
		size = 2 * slotSize
		if len(b) < size {
			return api.Insn{}, 0, api.ErrCodeCut
		}
		// The opcode, the registers and the offset are the first four bytes of a slot.
		if takeNumber(b[slotSize:], 4) != 0 {
			return api.Insn{}, 0, api.ErrCodeField
		}
		i.Imm = int(takeNumber(b[slotSize+immAt:], 4)<<halfBits | takeNumber(b[immAt:], 4))
	}
	if isa.May(i) != api.OK {
		return api.Insn{}, 0, api.ErrCodeInsn
	}
	return i, size, api.OK
}

// takeSlot takes up the fields of one slot.
func takeSlot(b []byte) api.Insn {
	registers := int(takeNumber(b[registersAt:], 1))
	return api.Insn{
		Op:  int(takeNumber(b, 1)),
		Dst: registers & registerMask,
		Src: registers >> registerBits,
		Off: int(int16(takeNumber(b[offAt:], 2))),
		Imm: int(int32(takeNumber(b[immAt:], 4))),
	}
}

// layNumber lays a number at the front of b in 1, 2 or 4 bytes, lowest first; what does not fit is cut off.
func layNumber(b []byte, n uint64, width int) {
	switch width {
	case 4:
		b[3] = byte(n >> 24)
		b[2] = byte(n >> 16)
		fallthrough
	case 2:
		b[1] = byte(n >> 8)
		fallthrough
	case 1:
		b[0] = byte(n)
	}
}

// takeNumber takes up the number of 1, 2 or 4 bytes at the front of b, lowest first, without sign.
func takeNumber(b []byte, width int) uint64 {
	n := uint64(0)
	switch width {
	case 4:
		n |= uint64(b[3])<<24 | uint64(b[2])<<16
		fallthrough
	case 2:
		n |= uint64(b[1]) << 8
		fallthrough
	case 1:
		n |= uint64(b[0])
	}
	return n
}
