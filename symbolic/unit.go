package symbolic

import (
	"slices"

	"spindle/api"
)

// unit is one of the modules that are run.
type unit struct {
	functions []function
	meanings  map[string]place // where the function that a name means in the module begins
}

// function is one of a module, and what was found out about its steps.
type function struct {
	name  string
	body  []api.Step
	steps []*step // of each step of the body; nil of those that the run has not come to yet
}

// globalsOf gives where each global function of the modules begins. Of modules that link no two have one name.
func globalsOf(ms []api.Module) map[string]place {
	globals := map[string]place{}
	for number, m := range ms {
		for k, f := range m.Funcs {
			if f.Global {
				globals[f.Name] = place{module: number, function: k}
			}
		}
	}
	return globals
}

// unitOf gives the module of a number, in memory of its own.
func unitOf(from api.Module, number int, globals map[string]place) unit {
	u := unit{
		functions: make([]function, 0, len(from.Funcs)),
		meanings:  make(map[string]place, len(from.Funcs)+len(from.Externs)),
	}
	for k, f := range from.Funcs {
		u.meanings[f.Name] = place{module: number, function: k}
		u.functions = append(u.functions, function{name: f.Name, body: slices.Clone(f.Body), steps: make([]*step, len(f.Body))})
	}
	for _, name := range from.Externs {
		u.meanings[name] = globals[name]
	}
	return u
}
