package machine

// The opcodes and fields that are asked for one by one.
const (
	opJump32 = 0x06
	opWide   = 0x18
	opCall   = 0x85
	opExit   = 0x95

	srcFunction = 1 // in a call: its Imm is a function's number
	srcTable    = 1 // in a wide instruction: its Imm is a table's number
)

// The classes of an opcode that may lead elsewhere than to the next instruction.
const (
	classBits   = 0x07
	classJump   = 0x05
	classJump32 = 0x06
)

// nowhere is the target of a branch that leads to no instruction of its function.
const nowhere = -1
