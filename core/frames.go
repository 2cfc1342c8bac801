package core

import (
	"spindle/api"
)

// Registers.
const (
	Registers  = 11
	FirstKept  = 6  // those from here on are the caller's again behind a call; the ones ahead, but the answer, are 0
	TopReg     = 10 // the address behind the frame's bytes
	AnswerReg  = 0  // what a call or an exit answers
	contextReg = 1  // at the beginning: the context's address
	lengthReg  = 2  // at the beginning: how many bytes the context has
)

// Kept are the registers that are a caller's again behind its call.
type Kept [Registers - FirstKept]uint64

// Top gives the address behind the bytes of the frame of a number.
func Top(d int) uint64 {
	return api.StackTop - uint64(d)*api.MaxFrame
}

// Bottom gives the address of the first byte of the frame of a number.
func Bottom(d int) uint64 {
	return Top(d + 1)
}

// AddFrame makes a region of the bytes of the frame of a number. No other region is ever there.
func (c *Core) AddFrame(d int, bytes []byte) {
	c.Space.Add(api.Region{First: Bottom(d), Data: bytes})
}

// RemoveFrame takes the region of the frame of a number away.
func (c *Core) RemoveFrame(d int) {
	c.Space.Remove(Bottom(d))
}

// Enter makes the frame of a number, that of a function that is called, the alive one, and gives what its caller keeps.
func (c *Core) Enter(d int) Kept {
	kept := Kept(c.Regs[FirstKept:])
	c.Regs[TopReg] = Top(d)
	c.AddFrame(d, make([]byte, api.MaxFrame))
	return kept
}

// Leave takes the alive frame, of that number, away, and gives its caller back what it keeps.
func (c *Core) Leave(d int, kept Kept) {
	c.answer(c.Regs[AnswerReg])
	copy(c.Regs[FirstKept:], kept[:])
	c.RemoveFrame(d)
}

// answer sets the registers that are not kept as they are behind a call.
func (c *Core) answer(x uint64) {
	clear(c.Regs[:FirstKept])
	c.Regs[AnswerReg] = x
}
