package machine

import (
	"spindle/api"
)

// frame is where a function stands: the number, within it, of the instruction that would be next.
type frame struct {
	function int
	at       int
}

// call is one that has not come back: the frame of the caller, which stands behind its call, and the registers that will be the caller's again.
type call struct {
	frame
	kept [registers - firstKept]uint64
}

// top gives the address behind the bytes of the frame of a number.
func top(d int) uint64 {
	return api.StackTop - uint64(d)*api.MaxFrame
}

// bottom gives the address of the first byte of the frame of a number.
func bottom(d int) uint64 {
	return top(d + 1)
}

// addFrame makes a region of the bytes of the frame of a number. No other region is ever there.
func (m *Machine) addFrame(d int, bytes []byte) {
	m.space.Add(api.Region{First: bottom(d), Data: bytes})
}

func (m *Machine) removeFrame(d int) {
	m.space.Remove(bottom(d))
}

// enter calls a function.
func (m *Machine) enter(s *step) api.Errno {
	d := len(m.calls) + 1
	if d == api.MaxFrames {
		return api.FaultDeep
	}
	m.calls = append(m.calls, call{m.frame, [registers - firstKept]uint64(m.regs[firstKept:])})
	m.frame = frame{function: s.Imm}
	m.regs[topReg] = top(d)
	m.addFrame(d, make([]byte, api.MaxFrame))
	return api.OK
}

// leave comes back from a function, of the first one to the run's end.
func (m *Machine) leave(s *step) api.Errno {
	d := len(m.calls)
	if d == 0 {
		m.stop(ending{kind: api.Returned, word: m.regs[answerReg]})
		return api.OK
	}
	back := m.calls[d-1]
	m.calls = m.calls[:d-1]
	m.frame = back.frame
	m.answer(m.regs[answerReg])
	copy(m.regs[firstKept:], back.kept[:])
	m.removeFrame(d)
	return api.OK
}

// answer sets the registers that are not kept as they are behind a call.
func (m *Machine) answer(x uint64) {
	clear(m.regs[:firstKept])
	m.regs[answerReg] = x
}
