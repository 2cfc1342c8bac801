package code

import (
	"encoding/binary"
	"math"

	"spindle/api"
	"spindle/isa"
)

// in makes an instruction of its fields.
func in(op, dst, src, off, imm int) api.Insn {
	return api.Insn{Op: op, Dst: dst, Src: src, Off: off, Imm: imm}
}

var (
	exit    = in(0x95, 0, 0, 0, 0)
	mov     = in(0xb7, 1, 0, 0, -1)
	ldxdw   = in(0x79, 2, 1, -8, 0)
	lddw    = in(0x18, 3, 0, 0, 0x123456789abcdef0)
	ldmap   = in(0x18, 1, 1, 0, -1)
	nothing = api.Insn{}
)

// fields are numbers of each field, at and beside the edges that the table of instructions has.
var (
	someRegisters = []int{-1, 0, 1, 2, 9, 10, 11, 15, 16}
	someOffs      = []int{math.MinInt16 - 1, math.MinInt16, -256, -8, -1, 0, 1, 8, 16, 32, 127, 128, 255, 256, 0x1234, math.MaxInt16, math.MaxInt16 + 1}
	someImms      = []int{math.MinInt, math.MinInt32 - 1, math.MinInt32, -1 << 16, -256, -1, 0, 1, 16, 32, 64, 0x40, 0xa1, 0xf1,
		255, 256, 1 << 16, 1 << 24, 0x12345678, math.MaxInt32, math.MaxInt32 + 1, math.MaxUint32, 1 << 32, 0x123456789abcdef0, -0x123456789abcdef0, math.MaxInt}
)

// samples gives instructions of every opcode, those that may be and those that may not.
func samples() (good, bad []api.Insn) {
	for _, op := range append(isa.Ops(), 0, 0x8d, 0xff, -1, 256, 256+0x95) {
		for _, dst := range someRegisters {
			for _, src := range someRegisters {
				for _, off := range someOffs {
					for _, imm := range someImms {
						i := in(op, dst, src, off, imm)
						if isa.May(i) == api.OK {
							good = append(good, i)
						} else if len(bad) < 1000 || dst == src {
							bad = append(bad, i)
						}
					}
				}
			}
		}
	}
	return good, bad
}

// every gives each n-th of a list.
func every(n int, is []api.Insn) []api.Insn {
	var some []api.Insn
	for k := 0; k < len(is); k += n {
		some = append(some, is[k])
	}
	return some
}

// slot gives the bytes of one slot, by the chapter's words.
func slot(op, dst, src, off int, imm uint32) []byte {
	b := []byte{byte(op), byte(src*16 + dst)}
	b = binary.LittleEndian.AppendUint16(b, uint16(off))
	return binary.LittleEndian.AppendUint32(b, imm)
}

// bytesOf gives the bytes of instructions, by the chapter's words.
func bytesOf(is ...api.Insn) []byte {
	var b []byte
	for _, i := range is {
		b = append(b, slot(i.Op, i.Dst, i.Src, i.Off, uint32(i.Imm))...)
		if i.Op == 0x18 {
			b = append(b, slot(0, 0, 0, 0, uint32(uint64(i.Imm)>>32))...)
		}
	}
	return b
}

// fieldsOf reads the instruction at the front of whole bytes by the chapter's words, and how many slots it has.
func fieldsOf(b []byte) (api.Insn, int) {
	i := in(int(b[0]), int(b[1]%16), int(b[1]/16), int(int16(binary.LittleEndian.Uint16(b[2:]))), int(int32(binary.LittleEndian.Uint32(b[4:]))))
	if b[0] != 0x18 {
		return i, 1
	}
	low, high := binary.LittleEndian.Uint32(b[4:]), binary.LittleEndian.Uint32(b[12:])
	i.Imm = int(uint64(high)<<32 + uint64(low))
	return i, 2
}

// reading gives what Decode is to answer, by the chapter's words.
func reading(b []byte) ([]api.Insn, int, api.Errno) {
	var is []api.Insn
	for at := 0; 8*at < len(b); {
		rest := b[8*at:]
		if len(rest) < 8 || rest[0] == 0x18 && len(rest) < 16 {
			return nil, at, api.ErrCodeCut
		}
		if rest[0] == 0x18 && (rest[8] != 0 || rest[9] != 0 || rest[10] != 0 || rest[11] != 0) {
			return nil, at, api.ErrCodeField
		}
		i, slots := fieldsOf(rest)
		if isa.May(i) != api.OK {
			return nil, at, api.ErrCodeInsn
		}
		is = append(is, i)
		at += slots
	}
	return is, 0, api.OK
}
