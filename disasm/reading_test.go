package disasm

import (
	"slices"
	"strconv"
	"strings"

	"spindle/api"
	"spindle/line"
	"spindle/object"
)

// Here objects are read a second time, by the chapter's words. Slots are counted again for each branch, and the instruction there is sought among all; a text is put together of the object alone: the layers below are asked for nothing but an object's error and the line of an instruction.

// readModule gives what Module is to answer.
func readModule(o api.Object) (api.Module, int, api.Errno) {
	if at, e := object.Check(o); e != api.OK {
		return api.Module{}, at, e
	}
	m := api.Module{Tables: o.Tables, Externs: o.Externs}
	for _, f := range o.Funcs {
		m.Funcs = append(m.Funcs, api.Func{Name: f.Name, Global: f.Global})
	}
	for n, i := range o.Text {
		f := readFunc(o, n)
		s := api.Step{Insn: i, Target: readTarget(o, n), Branch: -1}
		if branches(i.Op) {
			to := readLead(o, n)
			if to < 0 || readFunc(o, to) != f {
				return api.Module{}, n, api.ErrDisasmFlow
			}
			s.Branch = to - o.Funcs[f].First
			if i.Op == 0x06 {
				s.Insn.Imm = 0
			} else {
				s.Insn.Off = 0
			}
		}
		m.Funcs[f].Body = append(m.Funcs[f].Body, s)
	}
	return m, 0, api.OK
}

// branches tells by the number alone: the opcodes of the two classes of jumps, but for call and exit.
func branches(op int) bool {
	return (op%8 == 5 || op%8 == 6) && op != 0x85 && op != 0x95
}

// readSlot gives the slot at which instruction n begins.
func readSlot(o api.Object, n int) int {
	slot := 0
	for _, i := range o.Text[:n] {
		if slot++; i.Op == 0x18 {
			slot++
		}
	}
	return slot
}

// readLead gives the number of the instruction to which the branch n leads, below 0 where none begins.
func readLead(o api.Object, n int) int {
	far := o.Text[n].Off
	if o.Text[n].Op == 0x06 {
		far = o.Text[n].Imm
	}
	wanted := readSlot(o, n) + 1 + far
	slot := 0
	for k, i := range o.Text {
		if slot == wanted {
			return k
		}
		if slot++; i.Op == 0x18 {
			slot++
		}
	}
	return -1
}

// readFunc gives the number of the function of instruction n.
func readFunc(o api.Object, n int) int {
	return slices.IndexFunc(o.Funcs, func(f api.ObjFunc) bool { return f.First <= n && n < f.First+f.Count })
}

// readTarget gives the name that instruction n means.
func readTarget(o api.Object, n int) string {
	k := slices.IndexFunc(o.Relocs, func(r api.Reloc) bool { return r.At == n })
	if k < 0 {
		return ""
	}
	var names []string
	if o.Text[n].Op == 0x18 {
		for _, t := range o.Tables {
			names = append(names, t.Name)
		}
	} else {
		for _, f := range o.Funcs {
			names = append(names, f.Name)
		}
		names = append(names, o.Externs...)
	}
	return names[o.Relocs[k].Name]
}

// readText gives what Text is to answer.
func readText(o api.Object) (string, int, api.Errno) {
	if _, at, e := readModule(o); e != api.OK {
		return "", at, e
	}
	var ls []string
	for _, name := range o.Externs {
		ls = append(ls, ".extern "+name)
	}
	for _, t := range o.Tables {
		words := []string{".map", t.Name, []string{"", "array", "hash"}[t.Kind]}
		for _, n := range []int{t.Key, t.Value, t.Entries} {
			words = append(words, strconv.Itoa(n))
		}
		ls = append(ls, strings.Join(words, " "))
	}
	for _, f := range o.Funcs {
		if f.Global {
			ls = append(ls, ".global "+f.Name)
		}
		ls = append(ls, ".func "+f.Name)
		ls = append(ls, readBody(o, f)...)
	}
	return strings.Join(append(ls, ""), "\n"), 0, api.OK
}

// readBody gives the lines of a function's instructions.
func readBody(o api.Object, f api.ObjFunc) []string {
	label := func(n int) string { return "L" + strconv.Itoa(n-f.First) }
	var ls []string
	led := map[int]bool{}
	for n := f.First; n < f.First+f.Count; n++ {
		if branches(o.Text[n].Op) {
			led[readLead(o, n)] = true
		}
	}
	for n := f.First; n < f.First+f.Count; n++ {
		if led[n] {
			ls = append(ls, label(n)+":")
		}
		i, target := o.Text[n], readTarget(o, n)
		if branches(i.Op) {
			target = label(readLead(o, n))
			if i.Op == 0x06 {
				i.Imm = 0
			} else {
				i.Off = 0
			}
		}
		printed, _ := line.Print(i, target)
		ls = append(ls, "\t"+printed)
	}
	return ls
}
