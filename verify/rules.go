package verify

import (
	"slices"

	"spindle/api"
	"spindle/flow"
	"spindle/isa"
)

const (
	opCall   = 0x85
	srcTable = 1  // in a wide instruction: its Imm is a table's number
	srcHelp  = 0  // in a call: its Imm is a helper's number
	frameTop = 10 // the register that no instruction may write
	nowhere  = -1 // the next place of a branch that leads to no instruction of its function
)

// place is an instruction of an image, and what the rules look at beside it.
type place struct {
	insn      api.Insn
	next      []int // its next places, as layer 18 tells them
	last      bool  // it is its function's last one
	functions int   // how many the image has
	tables    int   // how many the image has
}

func placeOf(im api.Image, g *flow.Graph, f, at int) place {
	next, _ := g.Next(f, at)
	return place{
		insn:      im.Text[im.Funcs[f].First+at],
		next:      next,
		last:      at == im.Funcs[f].Count-1,
		functions: len(im.Funcs),
		tables:    len(im.Tables),
	}
}

// rule is one that an instruction may break, and the error that tells it.
type rule struct {
	broken func(place) bool
	code   api.Errno
}

// rules gives the rules for instructions in their order. As the first one stands ahead, the others are asked only of instructions that may be.
func rules() []rule {
	return []rule{
		{mayNotBe, api.ErrVerifyInsn},
		{leadsNowhere, api.ErrVerifyTarget},
		{fallsOff, api.ErrVerifyFall},
		{writesTop, api.ErrVerifyWrite},
		{callsNoFunction, api.ErrVerifyCall},
		{namesNoTable, api.ErrVerifyTable},
		{asksNoHelper, api.ErrVerifyHelper},
	}
}

func mayNotBe(p place) bool {
	return isa.May(p.insn) != api.OK
}

func leadsNowhere(p place) bool {
	return slices.Contains(p.next, nowhere)
}

func fallsOff(p place) bool {
	goes := isa.Jumps(p.insn)
	return p.last && goes != api.JumpAlways && goes != api.JumpExit
}

func writesTop(p place) bool {
	return slices.Contains(isa.Writes(p.insn), frameTop)
}

func callsNoFunction(p place) bool {
	return isa.Jumps(p.insn) == api.JumpCall && !isNumber(p.insn.Imm, p.functions)
}

func namesNoTable(p place) bool {
	return isa.Wide(p.insn) && p.insn.Src == srcTable && !isNumber(p.insn.Imm, p.tables)
}

func asksNoHelper(p place) bool {
	return p.insn.Op == opCall && p.insn.Src == srcHelp && (p.insn.Imm < api.HelpLookup || p.insn.Imm > api.HelpDelete)
}

// isNumber tells whether n is the number of one of so many.
func isNumber(n, many int) bool {
	return 0 <= n && n < many
}
