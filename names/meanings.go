package names

import (
	"maps"
	"slices"

	"spindle/api"
)

// function is what the name of global functions means: the first of them, and how many there are.
type function struct {
	bound api.Bound
	count int
}

// table is what the name of tables means: the first of them, and how many of the others have another shape.
type table struct {
	def    api.TableDef
	unlike int
}

// meanings tells what the names of objects mean to other objects. Local functions mean nothing to them.
type meanings struct {
	functions map[string]function
	tables    map[string]table
	externs   map[string]int // in how many objects a name is an extern
}

func meaningsOf(os []api.Object) *meanings {
	m := &meanings{map[string]function{}, map[string]table{}, map[string]int{}}
	for number, o := range os {
		m.addObject(number, o)
	}
	return m
}

func (m *meanings) addObject(number int, o api.Object) {
	for k, f := range o.Funcs {
		if f.Global {
			m.addFunction(api.Bound{Name: f.Name, Object: number, Func: k})
		}
	}
	for _, t := range o.Tables {
		m.addTable(t)
	}
	for _, name := range o.Externs {
		m.externs[name]++
	}
}

func (m *meanings) addFunction(b api.Bound) {
	f, there := m.functions[b.Name]
	if !there {
		f.bound = b
	}
	f.count++
	m.functions[b.Name] = f
}

// addTable holds a table against the first one of its name alone: if two of one name have not one shape, one of them has not the first one's.
func (m *meanings) addTable(def api.TableDef) {
	t, there := m.tables[def.Name]
	if !there {
		t.def = def
	}
	if t.def != def {
		t.unlike++
	}
	m.tables[def.Name] = t
}

// names gives a function and a table of each name, in the byte order of the names.
func (m *meanings) names() api.Names {
	all := api.Names{
		Funcs:  make([]api.Bound, 0, len(m.functions)),
		Tables: make([]api.TableDef, 0, len(m.tables)),
	}
	for _, name := range sortedNames(m.functions) {
		all.Funcs = append(all.Funcs, m.functions[name].bound)
	}
	for _, name := range sortedNames(m.tables) {
		all.Tables = append(all.Tables, m.tables[name].def)
	}
	return all
}

func sortedNames[M any](m map[string]M) []string {
	return slices.Sorted(maps.Keys(m))
}

// fault gives the error that decides and the least name of which it holds. Since the names rise, that is the first one found.
func (m *meanings) fault(all api.Names) (string, api.Errno) {
	for _, f := range all.Funcs {
		if m.isTwice(f.Name) {
			return f.Name, api.ErrLinkTwice
		}
	}
	for _, name := range sortedNames(m.externs) {
		if m.functions[name].count == 0 {
			return name, api.ErrLinkUndefined
		}
	}
	for _, t := range all.Tables {
		if m.tables[t.Name].unlike > 0 {
			return t.Name, api.ErrLinkShape
		}
	}
	return "", api.OK
}

// isTwice tells of the name of a global function whether another object means something else by it. In one object no two names are alike, so that all that has the name is of other objects.
func (m *meanings) isTwice(name string) bool {
	_, isTable := m.tables[name]
	return isTable || m.functions[name].count > 1
}
