package link

import (
	"spindle/api"
)

// image lays the objects of a plan one behind the other.
func (p *plan) image() api.Image {
	im := api.Image{Tables: p.tables, Entry: p.entry}
	im.Text, im.Funcs = p.room()
	for number, o := range p.objects {
		first := len(im.Text)
		im.Text = append(im.Text, o.Text...)
		p.fillSites(im.Text[first:], number)
		for _, f := range o.Funcs {
			im.Funcs = append(im.Funcs, api.ImgFunc{Name: f.Name, Object: number, First: first + f.First, Count: f.Count})
		}
	}
	return im
}

// room gives empty lists that have room for all instructions and all functions.
func (p *plan) room() ([]api.Insn, []api.ImgFunc) {
	instructions, functions := 0, 0
	for _, o := range p.objects {
		instructions += len(o.Text)
		functions += len(o.Funcs)
	}
	return make([]api.Insn, 0, instructions), make([]api.ImgFunc, 0, functions)
}

// fillSites writes into the sites of an object's text what they mean in the image. Each name is looked up once, however many sites it has.
func (p *plan) fillSites(text []api.Insn, number int) {
	callees, tables := p.calleesOf(number), p.tablesOf(number)
	for _, r := range p.objects[number].Relocs {
		if r.Kind == api.RelCall {
			text[r.At].Imm = callees[r.Name]
		} else {
			text[r.At].Imm = tables[r.Name]
		}
	}
}

// calleesOf gives the numbers in the image of the functions that an object can call: its own, then its externs.
func (p *plan) calleesOf(number int) []int {
	o := p.objects[number]
	callees := make([]int, 0, len(o.Funcs)+len(o.Externs))
	for k := range o.Funcs {
		callees = append(callees, p.ahead[number]+k)
	}
	for _, name := range o.Externs {
		callees = append(callees, p.globalNumbers[name])
	}
	return callees
}

// tablesOf gives the numbers in the image of an object's tables.
func (p *plan) tablesOf(number int) []int {
	tables := make([]int, 0, len(p.objects[number].Tables))
	for _, t := range p.objects[number].Tables {
		tables = append(tables, p.tableNumbers[t.Name])
	}
	return tables
}
