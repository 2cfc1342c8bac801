package module

import (
	"spindle/api"
)

// outside is the number of the function of a statement that no function stands ahead of.
const outside = -1

// maker makes a module of statements. Its two passes go over all of them: behind the first one all names and labels are known, also those that are declared behind the place where they are used.
type maker struct {
	module   api.Module
	names    names
	labels   map[label]int // the number of the step that a label stands for
	sizes    []int         // how many steps each function has
	function int           // the number of the function in which the pass stands
}

// label is a label of the function with that number.
type label struct {
	function int
	name     string
}

func newMaker() *maker {
	return &maker{names: names{}, labels: map[label]int{}}
}

// passes gives what is done with each statement, one pass behind the other.
func passes() []func(*maker, api.Statement) api.Errno {
	return []func(*maker, api.Statement) api.Errno{(*maker).declare, (*maker).resolve}
}

// declare takes up what a statement declares; of instructions it only counts how many each function has.
func (m *maker) declare(s api.Statement) api.Errno {
	switch s.Kind {
	case api.StmtFunc, api.StmtExtern, api.StmtMap:
		return m.declareName(s)
	case api.StmtLabel:
		return m.declareLabel(s.Name)
	case api.StmtInsn:
		return m.countStep()
	}
	return api.OK
}

func (m *maker) declareName(s api.Statement) api.Errno {
	if !m.names.add(s.Name, declared{kind: s.Kind, function: m.function}) {
		return api.ErrModuleTwice
	}
	switch s.Kind {
	case api.StmtFunc:
		m.module.Funcs = append(m.module.Funcs, api.Func{Name: s.Name})
		m.sizes = append(m.sizes, 0)
	case api.StmtExtern:
		m.module.Externs = append(m.module.Externs, s.Name)
	case api.StmtMap:
		t := tableOf(s)
		if !tableMay(t) {
			return api.ErrModuleTable
		}
		m.module.Tables = append(m.module.Tables, t)
	}
	return api.OK
}

func (m *maker) declareLabel(name string) api.Errno {
	if m.function == outside {
		return api.ErrModuleOutside
	}
	l := label{m.function, name}
	if _, taken := m.labels[l]; taken {
		return api.ErrModuleTwice
	}
	m.labels[l] = m.sizes[m.function]
	return api.OK
}

func (m *maker) countStep() api.Errno {
	if m.function == outside {
		return api.ErrModuleOutside
	}
	m.sizes[m.function]++
	return api.OK
}

// resolve fills the functions, and finds what each statement names.
func (m *maker) resolve(s api.Statement) api.Errno {
	switch s.Kind {
	case api.StmtFunc:
		return m.begin()
	case api.StmtGlobal:
		return m.makeGlobal(s.Name)
	case api.StmtLabel:
		if m.labels[label{m.function, s.Name}] == m.sizes[m.function] {
			return api.ErrModuleLabel
		}
	case api.StmtInsn:
		return m.addStep(s.Insn, s.Target)
	}
	return api.OK
}

// begin makes room for the steps of a function, just as many as it has.
func (m *maker) begin() api.Errno {
	size := m.sizes[m.function]
	if size == 0 {
		return api.ErrModuleEmpty
	}
	m.module.Funcs[m.function].Body = make([]api.Step, 0, size)
	return api.OK
}

func (m *maker) makeGlobal(name string) api.Errno {
	d := m.names[name]
	if d.kind != api.StmtFunc || m.module.Funcs[d.function].Global {
		return api.ErrModuleGlobal
	}
	m.module.Funcs[d.function].Global = true
	return api.OK
}

func (m *maker) addStep(i api.Insn, target string) api.Errno {
	step := api.Step{Insn: i, Target: target, Branch: noBranch}
	if isBranch(i) {
		at, known := m.labels[label{m.function, target}]
		if !known {
			return api.ErrModuleLabel
		}
		step.Target, step.Branch = "", at
	} else if !m.names.fit(i, target) {
		return api.ErrModuleName
	}
	f := &m.module.Funcs[m.function]
	f.Body = append(f.Body, step)
	return api.OK
}
