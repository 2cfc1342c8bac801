package image

import (
	"math"
	"math/bits"

	"spindle/api"
	"spindle/isa"
)

// A slot is laid and taken as two numbers of four bytes. The second one is the immediate; the first one has the opcode in its lowest bits, and from these bits on the other fields.
const (
	dstAt = 8
	srcAt = 12
	offAt = 16
)

const (
	slotSize     = 8
	byteBits     = 8
	halfBits     = 32 // of a wide instruction's Imm each of its slots has a half
	mostOp       = math.MaxUint8
	mostRegister = 15 // the greatest number of a register's four bits
)

// slotsOf tells how many slots instructions take.
func slotsOf(is ...api.Insn) int {
	n := len(is)
	for _, i := range is {
		if isa.Wide(i) {
			n++
		}
	}
	return n
}

// insnFits tells whether an instruction's fields are within their widths.
func insnFits(i api.Insn) bool {
	return within(i.Op, 0, mostOp) &&
		within(i.Dst, 0, mostRegister) &&
		within(i.Src, 0, mostRegister) &&
		within(i.Off, math.MinInt16, math.MaxInt16) &&
		(isa.Wide(i) || within(i.Imm, math.MinInt32, math.MaxInt32))
}

// layText lays instructions whose fields are within their widths.
func (t *tape) layText(is []api.Insn) {
	zeros := 0
	for _, i := range is {
		fields := i.Op | i.Dst<<dstAt | i.Src<<srcAt | i.Off<<offAt
		t.numbers(&fields, &i.Imm)
		if isa.Wide(i) {
			upper := i.Imm >> halfBits
			t.numbers(&zeros, &upper)
		}
	}
}

// takeInsn takes up the instruction that begins here, of a text that ends at a place; or tells the place of what is wrong with it.
func (t *tape) takeInsn(end int) (i api.Insn, place int, wrong bool) {
	start := t.at
	i = t.takeSlot()
	if !isa.Wide(i) {
		return i, 0, false
	}
	if t.at == end {
		return i, start, true
	}
	second := t.at
	zeros, upper := 0, 0
	t.numbers(&zeros, &upper)
	if zeros != 0 {
		return i, second + bits.TrailingZeros(uint(zeros))/byteBits, true
	}
	i.Imm = upper<<halfBits | int(uint32(i.Imm))
	return i, 0, false
}

// takeSlot takes up the fields of one slot.
func (t *tape) takeSlot() api.Insn {
	fields, imm := 0, 0
	t.numbers(&fields, &imm)
	return api.Insn{
		Op:  fields & mostOp,
		Dst: fields >> dstAt & mostRegister,
		Src: fields >> srcAt & mostRegister,
		Off: int(int16(fields >> offAt)),
		Imm: int(int32(imm)),
	}
}
