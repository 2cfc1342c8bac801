package line

import (
	"maps"

	"spindle/api"
)

// The parts of an opcode: its class, whether its operand is Src, and how many bytes it loads or stores.
const (
	classBits   = 0x07
	classWide   = 0x00
	class32     = 0x04
	classJump   = 0x05
	classJump32 = 0x06
	class64     = 0x07

	sourceBit = 0x08

	sizeBits  = 0x18
	sizeShift = 3

	// What an opcode does within its class.
	deedShift = 4
	deedOrder = 0x0d
)

// opWide is the opcode of lddw and ldmap, which Src tells apart.
const (
	opWide    = 0x18
	wordLddw  = "lddw"
	wordLdmap = "ldmap"
)

// reckonWords has, at the deed of an arithmetic opcode, what that is called in 64 bits and in 32.
var reckonWords = [...][2]string{
	{"add", "add32"}, {"sub", "sub32"}, {"mul", "mul32"}, {"div", "div32"}, {"or", "or32"}, {"and", "and32"}, {"lsh", "lsh32"},
	{"rsh", "rsh32"}, {"neg", "neg32"}, {"mod", "mod32"}, {"xor", "xor32"}, {"mov", "mov32"}, {"arsh", "arsh32"},
}

// jumpWords has the same of the opcodes that go on elsewhere; two of them have no form of 32 bits.
var jumpWords = [...][2]string{
	{"ja", "ja32"}, {"jeq", "jeq32"}, {"jgt", "jgt32"}, {"jge", "jge32"}, {"jset", "jset32"}, {"jne", "jne32"}, {"jsgt", "jsgt32"},
	{"jsge", "jsge32"}, {"call", ""}, {"exit", ""}, {"jlt", "jlt32"}, {"jle", "jle32"}, {"jslt", "jslt32"}, {"jsle", "jsle32"},
}

// memoryWords has, of an opcode without its size, what it is called with each size.
var memoryWords = [...]struct {
	op    uint8
	words [4]string
}{
	{0x61, [4]string{"ldxw", "ldxh", "ldxb", "ldxdw"}},
	{0x81, [4]string{"ldxsw", "ldxsh", "ldxsb", ""}},
	{0x62, [4]string{"stw", "sth", "stb", "stdw"}},
	{0x63, [4]string{"stxw", "stxh", "stxb", "stxdw"}},
}

// offWords are the words that the opcode and Off tell.
var offWords = [...]struct {
	op, off uint8
	word    string
}{
	{0x37, 1, "sdiv"}, {0x97, 1, "smod"}, {0x34, 1, "sdiv32"}, {0x94, 1, "smod32"},
	{0xbf, 8, "movs8"}, {0xbf, 16, "movs16"}, {0xbf, 32, "movs32"}, {0xbc, 8, "movs8w"}, {0xbc, 16, "movs16w"},
}

// immWords are the words that the opcode and Imm tell.
var immWords = [...]struct {
	op, imm uint8
	word    string
}{
	{0xd4, 16, "le16"}, {0xd4, 32, "le32"}, {0xd4, 64, "le64"},
	{0xdc, 16, "be16"}, {0xdc, 32, "be32"}, {0xdc, 64, "be64"},
	{0xd7, 16, "swap16"}, {0xd7, 32, "swap32"}, {0xd7, 64, "swap64"},
	{0xdb, 0x00, "aadd"}, {0xdb, 0x40, "aor"}, {0xdb, 0x50, "aand"}, {0xdb, 0xa0, "axor"}, {0xdb, 0x01, "afadd"},
	{0xdb, 0x41, "afor"}, {0xdb, 0x51, "afand"}, {0xdb, 0xa1, "afxor"}, {0xdb, 0xe1, "axchg"}, {0xdb, 0xf1, "acmpxchg"},
	{0xc3, 0x00, "aadd32"}, {0xc3, 0x40, "aor32"}, {0xc3, 0x50, "aand32"}, {0xc3, 0xa0, "axor32"}, {0xc3, 0x01, "afadd32"},
	{0xc3, 0x41, "afor32"}, {0xc3, 0x51, "afand32"}, {0xc3, 0xa1, "afxor32"}, {0xc3, 0xe1, "axchg32"}, {0xc3, 0xf1, "acmpxchg32"},
}

// mnemonicCount is how many keys the map of mnemonics is made for, so that it need not grow.
const mnemonicCount = 107

// meaning is what a mnemonic alone says of an instruction: its opcode, and the fields that are the same of all that are called so.
type meaning struct {
	op, src, off, imm uint8
}

func (m meaning) insn() api.Insn {
	return api.Insn{Op: int(m.op), Src: int(m.src), Off: int(m.off), Imm: int(m.imm)}
}

// mnemonics gives each mnemonic's instruction, with what its operands say left out: where the operand may be Src or Imm, the opcode is that of Imm.
func mnemonics() map[string]meaning {
	m := make(map[string]meaning, mnemonicCount)
	maps.Insert(m, eachMnemonic)
	return m
}

// meaningOf gives what a mnemonic is. It looks through the tables: a map that is made for one line alone costs ten times that, and a text may have millions of lines.
func meaningOf(word string) (meaning, bool) {
	for known, m := range eachMnemonic {
		if known == word {
			return m, true
		}
	}
	return meaning{}, false
}

// eachMnemonic goes over the rows of the map, as long as it is told to.
func eachMnemonic(yield func(string, meaning) bool) {
	tell := func(word string, m meaning) bool {
		// The tables have an empty text where there is no such instruction.
		return word == "" || yield(word, m)
	}
	for deed, words := range reckonWords {
		op := uint8(deed << deedShift)
		if !tell(words[0], meaning{op: op | class64}) || !tell(words[1], meaning{op: op | class32}) {
			return
		}
	}
	for deed, words := range jumpWords {
		op := uint8(deed << deedShift)
		if !tell(words[0], meaning{op: op | classJump}) || !tell(words[1], meaning{op: op | classJump32}) {
			return
		}
	}
	for _, row := range memoryWords {
		for size, word := range row.words {
			if !tell(word, meaning{op: row.op | uint8(size<<sizeShift)}) {
				return
			}
		}
	}
	for _, row := range offWords {
		if !tell(row.word, meaning{op: row.op, off: row.off}) {
			return
		}
	}
	for _, row := range immWords {
		if !tell(row.word, meaning{op: row.op, imm: row.imm}) {
			return
		}
	}
	if tell(wordLddw, meaning{op: opWide}) {
		tell(wordLdmap, meaning{op: opWide, src: srcNamed})
	}
}

// wordOf gives the mnemonic of an instruction that may be.
func wordOf(i api.Insn) string {
	deed := i.Op >> deedShift
	switch i.Op & classBits {
	case classWide:
		if i.Src == srcNamed {
			return wordLdmap
		}
		return wordLddw
	case class64, class32:
		return reckonWord(i)
	case classJump:
		return jumpWords[deed][0]
	case classJump32:
		return jumpWords[deed][1]
	}
	return memoryWord(i)
}

func reckonWord(i api.Insn) string {
	deed := i.Op >> deedShift
	switch {
	case i.Off != 0:
		return offWord(i)
	case deed == deedOrder:
		return immWord(i)
	case i.Op&classBits == class64:
		return reckonWords[deed][0]
	}
	return reckonWords[deed][1]
}

func memoryWord(i api.Insn) string {
	for _, row := range memoryWords {
		if i.Op&^sizeBits == int(row.op) {
			return row.words[i.Op&sizeBits>>sizeShift]
		}
	}
	return immWord(i)
}

// offWord looks past the bit that tells where the operand is: the word is the same with both.
func offWord(i api.Insn) string {
	for _, row := range offWords {
		if i.Op|sourceBit == int(row.op)|sourceBit && i.Off == int(row.off) {
			return row.word
		}
	}
	return ""
}

func immWord(i api.Insn) string {
	for _, row := range immWords {
		if i.Op == int(row.op) && i.Imm == int(row.imm) {
			return row.word
		}
	}
	return ""
}
