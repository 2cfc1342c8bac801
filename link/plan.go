package link

import (
	"spindle/api"
	"spindle/names"
)

// plan is what is known of an image ahead of its text: what the names and numbers of its objects stand for in it.
type plan struct {
	objects []api.Object
	ahead   []int // of each object how many functions the objects ahead of it have
	tables  []api.TableDef
	entry   int

	globalNumbers map[string]int // of the global function of each name its number in the image
	tableNumbers  map[string]int // of the table of each name its number in the image
}

// planOf finds all that may be wrong, so that of a plan an image can be made.
func planOf(os []api.Object, entry string) (*plan, error) {
	all, name, e := names.Merge(os)
	if e != api.OK {
		return nil, &wrong{name, e}
	}
	p := &plan{objects: os, ahead: functionsAhead(os), tables: all.Tables}
	p.numberGlobals(all.Funcs)
	p.numberTables()
	number, there := p.globalNumbers[entry]
	if !there {
		return nil, &wrong{entry, api.ErrLinkEntry}
	}
	if isLong(os, all.Tables) {
		return nil, &wrong{"", api.ErrLinkLong}
	}
	p.entry = number
	return p, nil
}

func functionsAhead(os []api.Object) []int {
	ahead := make([]int, len(os))
	count := 0
	for k, o := range os {
		ahead[k] = count
		count += len(o.Funcs)
	}
	return ahead
}

func (p *plan) numberGlobals(globals []api.Bound) {
	p.globalNumbers = make(map[string]int, len(globals))
	for _, b := range globals {
		p.globalNumbers[b.Name] = p.ahead[b.Object] + b.Func
	}
}

func (p *plan) numberTables() {
	p.tableNumbers = make(map[string]int, len(p.tables))
	for k, t := range p.tables {
		p.tableNumbers[t.Name] = k
	}
}
