package machine

import (
	"slices"

	"spindle/api"
	"spindle/core"
	"spindle/isa"
)

// program is an image that is run, and what was found out about its instructions.
type program struct {
	image api.Image
	slots []int   // of each instruction of the text the slot at which it begins, so this list rises
	steps []*step // of each instruction of the text; nil of those that no step has come to yet
}

func programOf(im api.Image) program {
	own := api.Image{Text: slices.Clone(im.Text), Funcs: slices.Clone(im.Funcs), Tables: slices.Clone(im.Tables), Entry: im.Entry}
	return program{image: own, slots: slotsOf(own.Text), steps: make([]*step, len(own.Text))}
}

func slotsOf(text []api.Insn) []int {
	slots := make([]int, 0, len(text))
	slot := 0
	for _, i := range text {
		slots = append(slots, slot)
		slot++
		if isa.Wide(i) {
			slot++
		}
	}
	return slots
}

// stepAt gives the step of the instruction at which a frame stands. It is worked out once, as a run may come there again and again, and not ahead of the run, as most of a great image may never be run.
func (p *program) stepAt(f frame) *step {
	k := p.image.Funcs[f.function].First + f.at
	if p.steps[k] == nil {
		p.steps[k] = p.stepOf(f.function, k)
	}
	return p.steps[k]
}

// isBehind tells whether a frame stands behind the last instruction of its function.
func (p *program) isBehind(f frame) bool {
	return f.at == p.image.Funcs[f.function].Count
}

// stepOf gives the step of an instruction of a function, told by its number in the text.
func (p *program) stepOf(function, k int) *step {
	i := p.image.Text[k]
	s := &step{Step: core.StepOf(i)}
	if s.branches() {
		s.target = p.target(function, k)
	}
	s.fault = p.faultOf(s)
	return s
}

// target gives the number, within its function, of the instruction to which a branch leads, or nowhere.
func (p *program) target(function, k int) int {
	f, i := p.image.Funcs[function], p.image.Text[k]
	distance := i.Off
	if i.Op == opJump32 {
		distance = i.Imm
	}
	at, begins := slices.BinarySearch(p.slots[f.First:f.First+f.Count], p.slots[k]+1+distance)
	if !begins {
		return nowhere
	}
	return at
}

// faultOf gives the structural fault to which a step comes, but for those that hang on the frames.
func (p *program) faultOf(s *step) api.Errno {
	if fault := core.Fault(s.Insn); fault != api.OK {
		return fault
	}
	switch {
	case s.Op == opWide && s.Src == srcTable && !isNumber(s.Imm, len(p.image.Tables)):
		return api.FaultTable
	case s.branches() && s.target == nowhere:
		return api.FaultPlace
	case s.Op == opCall && s.Src == srcFunction && !isNumber(s.Imm, len(p.image.Funcs)):
		return api.FaultCall
	}
	return api.OK
}

// isNumber tells whether n is the number of one of so many.
func isNumber(n, many int) bool {
	return 0 <= n && n < many
}
