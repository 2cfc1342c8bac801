package core

// The opcodes and fields that are asked for one by one.
const (
	opCall   = 0x85
	opLittle = 0xd4

	srcHelper = 0 // in a call: its Imm is a helper's number
	srcTable  = 1 // in a wide instruction: its Imm is a table's number
)

// The parts of an opcode: its class (what has none of those named here is arithmetic in 64 bits); of arithmetic and branches whether the operand is Src, and what is reckoned or asked; of loads and stores how many bits, and in which way.
const (
	classBits   = 0x07
	classWide   = 0x00
	classLoad   = 0x01
	classSet    = 0x02
	classStore  = 0x03
	class32     = 0x04
	classJump   = 0x05
	classJump32 = 0x06

	sourceBit = 0x08
	whatBits  = 0xf0

	sizeBits = 0x18
	size32   = 0x00
	size16   = 0x08
	size8    = 0x10

	modeBits   = 0xe0
	modeSigned = 0x80
	modeAtomic = 0xc0
)

// What arithmetic reckons.
const (
	whatAdd   = 0x00
	whatSub   = 0x10
	whatMul   = 0x20
	whatDiv   = 0x30
	whatOr    = 0x40
	whatAnd   = 0x50
	whatLsh   = 0x60
	whatRsh   = 0x70
	whatNeg   = 0x80
	whatMod   = 0x90
	whatXor   = 0xa0
	whatArsh  = 0xc0
	whatOrder = 0xd0
)

// What branches ask.
const (
	askEqual        = 0x10
	askAbove        = 0x20
	askNotBelow     = 0x30
	askBits         = 0x40
	askOther        = 0x50
	askSignAbove    = 0x60
	askSignNotBelow = 0x70
	askBelow        = 0xa0
	askNotAbove     = 0xb0
	askSignBelow    = 0xc0
	askSignNotAbove = 0xd0
)

// What atomics do, in Imm. Those that fetch put what was there into a register.
const (
	atomicAdd       = 0x00
	atomicOr        = 0x40
	atomicAnd       = 0x50
	atomicXor       = 0xa0
	fetchBit        = 0x01
	compareExchange = 0xf1
)
