package object

import (
	"spindle/api"
	"spindle/code"
	"spindle/isa"
)

// The immediates of sites: what they mean is told by their relocations.
const (
	callImm = -1
	loadImm = 0
)

// point is one of the seven that an object must meet: where it fails, if it does, and the error.
type point struct {
	fault func(api.Object) (int, bool)
	code  api.Errno
}

func points() []point {
	return []point{
		{countFault, api.ErrObjectMany},
		{nameFault, api.ErrObjectName},
		{twiceFault, api.ErrObjectTwice},
		{funcFault, api.ErrObjectFunc},
		{tableFault, api.ErrObjectTable},
		{insnFault, api.ErrObjectInsn},
		{relocFault, api.ErrObjectReloc},
	}
}

func countFault(o api.Object) (int, bool) {
	counts := [...]int{code.Slots(o.Text), len(o.Funcs), len(o.Tables), len(o.Externs)}
	most := [...]int{api.MaxSlots, api.MaxFuncs, api.MaxTables, api.MaxExterns}
	for k, count := range counts {
		if count > most[k] {
			return k, true
		}
	}
	return 0, false
}

func nameFault(o api.Object) (int, bool) {
	for k, name := range namesOf(o) {
		if !isName(name) {
			return k, true
		}
	}
	return 0, false
}

func twiceFault(o api.Object) (int, bool) {
	ahead := map[string]int{}
	for k, name := range namesOf(o) {
		if _, taken := ahead[name]; taken {
			return k, true
		}
		ahead[name] = k
	}
	return 0, false
}

// funcFault looks for the first function that does not begin where the one ahead ends. What is left of Text is told without adding up any Count, which might wrap round.
func funcFault(o api.Object) (int, bool) {
	begin := 0
	for k, f := range o.Funcs {
		if f.First != begin || f.Count < 1 || f.Count > len(o.Text)-begin {
			return k, true
		}
		begin += f.Count
	}
	return len(o.Funcs), begin < len(o.Text)
}

func tableFault(o api.Object) (int, bool) {
	for k, t := range o.Tables {
		if !tableMay(t) {
			return k, true
		}
	}
	return 0, false
}

func insnFault(o api.Object) (int, bool) {
	for k, i := range o.Text {
		if isa.May(i) != api.OK || !immFits(i) {
			return k, true
		}
	}
	return 0, false
}

// immFits tells of an instruction that may be whether its immediate may stand in an object.
func immFits(i api.Insn) bool {
	switch siteKind(i) {
	case api.RelCall:
		return i.Imm == callImm
	case api.RelTable:
		return i.Imm == loadImm
	}
	return true
}

// siteKind gives the kind of the relocation that an instruction which may be must have, 0 where it is no site.
func siteKind(i api.Insn) int {
	switch {
	case isa.Jumps(i) == api.JumpCall:
		return api.RelCall
	case isa.Wide(i) && i.Src == 1:
		return api.RelTable
	}
	return 0
}

func relocFault(o api.Object) (int, bool) {
	next := 0
	for at, i := range o.Text {
		kind := siteKind(i)
		if kind == 0 {
			continue
		}
		if next == len(o.Relocs) || !relocFits(o, o.Relocs[next], at, kind) {
			return next, true
		}
		next++
	}
	return next, next < len(o.Relocs)
}

// relocFits tells whether a relocation is that of the site with the number at, which asks for the kind.
func relocFits(o api.Object, r api.Reloc, at, kind int) bool {
	known := len(o.Tables)
	if kind == api.RelCall {
		known = len(o.Funcs) + len(o.Externs)
	}
	return r.At == at && r.Kind == kind && 0 <= r.Name && r.Name < known
}
