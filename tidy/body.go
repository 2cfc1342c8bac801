package tidy

import (
	"math"
	"slices"

	"spindle/api"
	"spindle/flow"
	"spindle/isa"
)

const (
	opJump   = 0x05 // ja
	opJump32 = 0x06 // ja32
)

// nowhere is the target of an instruction that is no branch, and the last place of a jump that leads in a circle.
const nowhere = -1

// step is an instruction of a function, and how it goes on. How far a branch leads is not kept up in its field: text lays it there.
type step struct {
	insn   api.Insn
	goes   int // as isa.Jumps tells it
	target int // of a branch, a jump too, the place to which it leads, else nowhere
}

// body is the steps of a function; their places are numbered from 0 on.
type body []step

// bodyOf gives the steps of a function of an image that verifies.
func bodyOf(im api.Image, g *flow.Graph, f int) body {
	text := im.Text[im.Funcs[f].First:][:im.Funcs[f].Count]
	b := make(body, 0, len(text))
	for at, i := range text {
		s := step{insn: i, goes: isa.Jumps(i), target: nowhere}
		if s.goes == api.JumpAlways || s.goes == api.JumpMaybe {
			next, _ := g.Next(f, at)
			s.target = targetOf(at, next)
		}
		b = append(b, s)
	}
	return b
}

// targetOf gives where a branch leads: of its next places the one that is not right behind it, if there is one.
func targetOf(at int, next []int) int {
	for _, place := range next {
		if place != at+1 {
			return place
		}
	}
	return at + 1
}

// jumps tells whether a step is a ja or a ja32.
func (s step) jumps() bool {
	return s.goes == api.JumpAlways
}

// leads tells whether a step is a branch, a jump too.
func (s step) leads() bool {
	return s.target != nowhere
}

// goesOn tells whether a run may go on right behind a step.
func (s step) goesOn() bool {
	return s.goes != api.JumpAlways && s.goes != api.JumpExit
}

// without gives the steps that are not gone, and whether any is. What led to one that is gone leads to the first behind it that is not.
func (b body) without(gone []bool) (body, bool) {
	if !slices.Contains(gone, true) {
		return b, false
	}
	left := make(body, 0, len(b))
	becomes := make(map[int]int, len(b)) // of each place that which it has now
	for at, s := range b {
		becomes[at] = len(left)
		if !gone[at] {
			left = append(left, s)
		}
	}
	for at, s := range left {
		if s.leads() {
			left[at].target = becomes[s.target]
		}
	}
	return left, true
}

// text gives the instructions, each branch as far as it leads now.
func (b body) text() []api.Insn {
	slots := b.slots()
	text := make([]api.Insn, 0, len(b))
	for at, s := range b {
		i := s.insn
		if s.leads() {
			i = leading(i, slots[s.target]-slots[at]-1)
		}
		text = append(text, i)
	}
	return text
}

// slots gives the slot of each step.
func (b body) slots() []int {
	slots := make([]int, 0, len(b))
	slot := 0
	for _, s := range b {
		slots = append(slots, slot)
		slot++
		if isa.Wide(s.insn) {
			slot++
		}
	}
	return slots
}

// leading gives a branch that leads so far. A ja that is led on may come to lead farther than its field can tell, and is a ja32 then; other branches never come to lead farther than they did.
func leading(i api.Insn, far int) api.Insn {
	switch {
	case i.Op == opJump32:
		i.Imm = far
	case i.Op == opJump && (far < math.MinInt16 || far > math.MaxInt16):
		i = api.Insn{Op: opJump32, Imm: far}
	default:
		i.Off = far
	}
	return i
}
