package asm

import (
	"math"

	"spindle/api"
)

// countError tells which of a module's lists is too long.
func countError(m api.Module) error {
	switch {
	case len(m.Funcs) > api.MaxFuncs:
		return &wrong{0, api.ErrAsmMany}
	case len(m.Tables) > api.MaxTables:
		return &wrong{1, api.ErrAsmMany}
	case len(m.Externs) > api.MaxExterns:
		return &wrong{2, api.ErrAsmMany}
	}
	return nil
}

// firstError tells the first instruction of which the size is wrong.
func (d *draft) firstError() error {
	for n := range d.object.Text {
		if e := d.stepError(n); e != api.OK {
			return &wrong{n, e}
		}
	}
	return nil
}

// stepError tells what is wrong with the size of instruction n.
func (d *draft) stepError(n int) api.Errno {
	// Only the distance of a branch can be out of these bounds: every other Off is that of an instruction that may be.
	if off := d.object.Text[n].Off; off < math.MinInt16 || off > math.MaxInt16 {
		return api.ErrAsmBranch
	}
	if d.slots[n+1] > api.MaxSlots {
		return api.ErrAsmLong
	}
	return api.OK
}

// lineError tells the first line of which the size is wrong. The statements are those of the draft's module: their instructions are its instructions, in the same order.
func (d *draft) lineError(ss []api.Statement) error {
	var ahead [api.StmtInsn + 1]int // how many statements of each kind stand ahead
	for _, s := range ss {
		if e := d.statementError(s.Kind, ahead[s.Kind]); e != api.OK {
			return &wrong{s.Line, e}
		}
		ahead[s.Kind]++
	}
	return nil
}

// statementError tells what is wrong with the size of a statement of a kind, so many of which stand ahead of it.
func (d *draft) statementError(kind, ahead int) api.Errno {
	switch kind {
	case api.StmtInsn:
		return d.stepError(ahead)
	case api.StmtFunc:
		return manyError(ahead, api.MaxFuncs)
	case api.StmtMap:
		return manyError(ahead, api.MaxTables)
	case api.StmtExtern:
		return manyError(ahead, api.MaxExterns)
	}
	return api.OK
}

func manyError(ahead, most int) api.Errno {
	if ahead >= most {
		return api.ErrAsmMany
	}
	return api.OK
}
