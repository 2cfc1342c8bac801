package module

import (
	"iter"

	"spindle/api"
	"spindle/isa"
	"spindle/line"
)

// names are the functions, tables and externs of a module by their names, which are one set.
type names map[string]declared

// declared is what a name stands for: the kind of the statement that declares it (never 0, so that a name that is not there has none), and of a function its number.
type declared struct {
	kind     int
	function int
}

// add takes up a name, unless it is taken.
func (n names) add(name string, d declared) bool {
	if _, taken := n[name]; taken {
		return false
	}
	n[name] = d
	return true
}

// fit tells of an instruction that is no branch whether a target is what it must be, and the field in whose place it stands too.
func (n names) fit(i api.Insn, target string) bool {
	switch {
	case isa.Jumps(i) == api.JumpCall:
		kind := n[target].kind
		return (kind == api.StmtFunc || kind == api.StmtExtern) && i.Imm == callImm
	case isTableLoad(i):
		return n[target].kind == api.StmtMap && i.Imm == 0
	}
	return target == ""
}

// namesOf gives the names of a module; all are looked at one by one ahead of any being held against another.
func namesOf(m api.Module) (names, api.Errno) {
	for name := range declarations(m) {
		if !isName(name) {
			return nil, api.ErrModuleName
		}
	}
	known := names{}
	for name, kind := range declarations(m) {
		if !known.add(name, declared{kind: kind}) {
			return nil, api.ErrModuleTwice
		}
	}
	return known, api.OK
}

// declarations goes over the names of a module, with the kinds of the statements that declare them.
func declarations(m api.Module) iter.Seq2[string, int] {
	return func(yield func(string, int) bool) {
		for _, f := range m.Funcs {
			if !yield(f.Name, api.StmtFunc) {
				return
			}
		}
		for _, t := range m.Tables {
			if !yield(t.Name, api.StmtMap) {
				return
			}
		}
		for _, name := range m.Externs {
			if !yield(name, api.StmtExtern) {
				return
			}
		}
	}
}

// isName tells whether a text is a name: a jump's line takes any name, and nothing else, as its target.
func isName(text string) bool {
	_, e := line.Print(api.Insn{Op: opJump}, text)
	return e == api.OK
}
