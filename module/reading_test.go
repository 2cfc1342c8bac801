package module

import (
	"fmt"
	"math/big"
	"regexp"
	"slices"
	"strings"

	"spindle/api"
	"spindle/isa"
	"spindle/line"
)

// Here statements and modules are read a second time, by the chapter's words: each sentence is asked of the whole list, again for each statement and each step, with no map and no pass that keeps anything.

var nameShape = regexp.MustCompile(`^[A-Za-z_][A-Za-z0-9_.$]{0,63}$`)

// readMake gives what Make is to answer of statements that may be.
func readMake(ss []api.Statement) (api.Module, int, api.Errno) {
	for _, pass := range []func([]api.Statement, int) api.Errno{readFirst, readSecond} {
		for k, s := range ss {
			if e := pass(ss, k); e != api.OK {
				return api.Module{}, s.Line, e
			}
		}
	}
	var m api.Module
	for k, s := range ss {
		switch s.Kind {
		case api.StmtFunc:
			m.Funcs = append(m.Funcs, readFunc(ss, k))
		case api.StmtMap:
			m.Tables = append(m.Tables, readTable(s))
		case api.StmtExtern:
			m.Externs = append(m.Externs, s.Name)
		}
	}
	return m, 0, api.OK
}

// ownerOf gives the place of the last `.func` ahead of a statement, or -1.
func ownerOf(ss []api.Statement, k int) int {
	for k--; k >= 0 && ss[k].Kind != api.StmtFunc; k-- {
	}
	return k
}

// endOf gives the place of the first `.func` behind one, or the list's end.
func endOf(ss []api.Statement, k int) int {
	for k++; k < len(ss) && ss[k].Kind != api.StmtFunc; k++ {
	}
	return k
}

func holds(ss []api.Statement, name string, kinds ...int) bool {
	return slices.ContainsFunc(ss, func(s api.Statement) bool { return s.Name == name && slices.Contains(kinds, s.Kind) })
}

func insnCount(ss []api.Statement) int {
	count := 0
	for _, s := range ss {
		if s.Kind == api.StmtInsn {
			count++
		}
	}
	return count
}

func readFirst(ss []api.Statement, k int) api.Errno {
	s, owner := ss[k], ownerOf(ss, k)
	switch s.Kind {
	case api.StmtFunc, api.StmtExtern, api.StmtMap:
		if holds(ss[:k], s.Name, api.StmtFunc, api.StmtExtern, api.StmtMap) {
			return api.ErrModuleTwice
		}
		if s.Kind == api.StmtMap && !readTableMay(readTable(s)) {
			return api.ErrModuleTable
		}
	case api.StmtLabel, api.StmtInsn:
		if owner < 0 {
			return api.ErrModuleOutside
		}
		if s.Kind == api.StmtLabel && holds(ss[owner:k], s.Name, api.StmtLabel) {
			return api.ErrModuleTwice
		}
	}
	return api.OK
}

func readSecond(ss []api.Statement, k int) api.Errno {
	s := ss[k]
	switch s.Kind {
	case api.StmtFunc:
		if insnCount(ss[k:endOf(ss, k)]) == 0 {
			return api.ErrModuleEmpty
		}
	case api.StmtGlobal:
		if !holds(ss, s.Name, api.StmtFunc) || holds(ss[:k], s.Name, api.StmtGlobal) {
			return api.ErrModuleGlobal
		}
	case api.StmtLabel:
		if insnCount(ss[k:endOf(ss, k)]) == 0 {
			return api.ErrModuleLabel
		}
	case api.StmtInsn:
		return readTarget(ss, k)
	}
	return api.OK
}

// readTarget tells by an instruction's line what its target must be.
func readTarget(ss []api.Statement, k int) api.Errno {
	s := ss[k]
	text, _ := line.Print(s.Insn, s.Target)
	owner := ownerOf(ss, k)
	switch {
	case strings.HasPrefix(text, "j") && !holds(ss[owner:endOf(ss, owner)], s.Target, api.StmtLabel):
		return api.ErrModuleLabel
	case strings.HasPrefix(text, "call ") && s.Target != "" && !holds(ss, s.Target, api.StmtFunc, api.StmtExtern):
		return api.ErrModuleName
	case strings.HasPrefix(text, "ldmap ") && !holds(ss, s.Target, api.StmtMap):
		return api.ErrModuleName
	}
	return api.OK
}

// readFunc gives the function that begins at a place.
func readFunc(ss []api.Statement, k int) api.Func {
	f := api.Func{Name: ss[k].Name, Global: holds(ss, ss[k].Name, api.StmtGlobal)}
	body := ss[k:endOf(ss, k)]
	for _, s := range body {
		if s.Kind != api.StmtInsn {
			continue
		}
		step := api.Step{Insn: s.Insn, Target: s.Target, Branch: -1}
		if text, _ := line.Print(s.Insn, s.Target); strings.HasPrefix(text, "j") {
			at := slices.IndexFunc(body, func(l api.Statement) bool { return l.Kind == api.StmtLabel && l.Name == s.Target })
			step.Target, step.Branch = "", insnCount(body[:at])
		}
		f.Body = append(f.Body, step)
	}
	return f
}

func readTable(s api.Statement) api.TableDef {
	kinds := map[string]int{"array": 1, "hash": 2}
	return api.TableDef{Name: s.Name, Kind: kinds[s.Words[0]], Key: s.Numbers[0], Value: s.Numbers[1], Entries: s.Numbers[2]}
}

// readTableMay reckons with numbers that have no bound.
func readTableMay(t api.TableDef) bool {
	value := big.NewInt(int64(t.Value))
	for new(big.Int).And(value, big.NewInt(7)).Sign() != 0 {
		value.Add(value, big.NewInt(1))
	}
	size := new(big.Int).Add(value, big.NewInt(int64(t.Key)))
	size.Add(size, big.NewInt(8))
	size.Mul(size, big.NewInt(int64(t.Entries)))
	within := func(n, most int) bool { return n > 0 && n <= most }
	return (t.Kind == 1 && t.Key == 4 || t.Kind == 2) && within(t.Key, 64) && within(t.Value, 4096) && within(t.Entries, 65536) && size.Cmp(big.NewInt(16777216)) <= 0
}

// readCheck gives what Check is to answer.
func readCheck(m api.Module) api.Errno {
	callable := slices.Clone(m.Externs)
	for _, f := range m.Funcs {
		callable = append(callable, f.Name)
	}
	var tables []string
	for _, t := range m.Tables {
		tables = append(tables, t.Name)
	}
	all := slices.Concat(callable, tables)
	slices.Sort(all)
	switch {
	case slices.ContainsFunc(all, func(name string) bool { return !nameShape.MatchString(name) }):
		return api.ErrModuleName
	case len(slices.Compact(slices.Clone(all))) < len(all):
		return api.ErrModuleTwice
	case slices.ContainsFunc(m.Tables, func(t api.TableDef) bool { return !readTableMay(t) }):
		return api.ErrModuleTable
	case slices.ContainsFunc(m.Funcs, func(f api.Func) bool { return len(f.Body) == 0 }):
		return api.ErrModuleEmpty
	}
	for _, f := range m.Funcs {
		for _, s := range f.Body {
			if e := readStep(s, len(f.Body), callable, tables); e != api.OK {
				return e
			}
		}
	}
	return api.OK
}

func readStep(s api.Step, size int, callable, tables []string) api.Errno {
	i, targets, imm := s.Insn, []string{""}, s.Insn.Imm
	switch {
	case i.Op == 0x85 && i.Src == 1:
		targets, imm = callable, -1
	case i.Op == 0x18 && i.Src == 1:
		targets, imm = tables, 0
	}
	field := i.Off
	if i.Op == 0x06 {
		field = i.Imm
	}
	switch {
	case isa.May(i) != api.OK:
		return isa.May(i)
	case branches(i.Op) && (s.Branch < 0 || s.Branch >= size || field != 0):
		return api.ErrModuleLabel
	case !branches(i.Op) && s.Branch != -1:
		return api.ErrModuleLabel
	case !slices.Contains(targets, s.Target) || i.Imm != imm:
		return api.ErrModuleName
	}
	return api.OK
}

// branches tells by the number alone: the opcodes of the two classes of jumps, but for call and exit.
func branches(op int) bool {
	return (op%8 == 5 || op%8 == 6) && op != 0x85 && op != 0x95
}

// readPrint gives what Print is to answer.
func readPrint(m api.Module) (string, api.Errno) {
	if e := readCheck(m); e != api.OK {
		return "", e
	}
	text := ""
	for _, name := range m.Externs {
		text += fmt.Sprintf(".extern %s\n", name)
	}
	for _, t := range m.Tables {
		text += fmt.Sprintf(".map %s %s %d %d %d\n", t.Name, []string{"", "array", "hash"}[t.Kind], t.Key, t.Value, t.Entries)
	}
	for _, f := range m.Funcs {
		text += strings.Repeat(fmt.Sprintf(".global %s\n", f.Name), map[bool]int{true: 1}[f.Global]) + fmt.Sprintf(".func %s\n", f.Name)
		for k, s := range f.Body {
			if slices.ContainsFunc(f.Body, func(b api.Step) bool { return b.Branch == k }) {
				text += fmt.Sprintf("L%d:\n", k)
			}
			target := s.Target
			if branches(s.Insn.Op) {
				target = fmt.Sprintf("L%d", s.Branch)
			}
			printed, _ := line.Print(s.Insn, target)
			text += "\t" + printed + "\n"
		}
	}
	return text, api.OK
}

// same tells whether two modules are one; nil and empty lists are one too.
func same(a, b api.Module) bool {
	return slices.EqualFunc(a.Funcs, b.Funcs, sameFunc) && slices.Equal(a.Tables, b.Tables) && slices.Equal(a.Externs, b.Externs)
}

func sameFunc(a, b api.Func) bool {
	return a.Name == b.Name && a.Global == b.Global && slices.Equal(a.Body, b.Body)
}

// copyOf gives a module that shares no memory with the one handed in.
func copyOf(m api.Module) api.Module {
	out := api.Module{Funcs: slices.Clone(m.Funcs), Tables: slices.Clone(m.Tables), Externs: slices.Clone(m.Externs)}
	for k := range out.Funcs {
		out.Funcs[k].Body = slices.Clone(out.Funcs[k].Body)
	}
	return out
}
