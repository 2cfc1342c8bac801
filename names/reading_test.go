package names

import (
	"slices"

	"spindle/api"
	"spindle/object"
)

// Here the names are read a second time, by the chapter's words: without maps, each name and each two objects sought out anew.

// globalOf gives the number of the global function of a name in an object, below 0 where there is none.
func globalOf(o api.Object, name string) int {
	return slices.IndexFunc(o.Funcs, func(f api.ObjFunc) bool { return f.Global && f.Name == name })
}

// tableOf gives the number of the table of a name in an object, below 0 where there is none.
func tableOf(o api.Object, name string) int {
	return slices.IndexFunc(o.Tables, func(t api.TableDef) bool { return t.Name == name })
}

// ofTwo tells whether something holds of two objects, in this order.
func ofTwo(os []api.Object, holds func(a, b api.Object) bool) bool {
	for i, a := range os {
		for j, b := range os {
			if i != j && holds(a, b) {
				return true
			}
		}
	}
	return false
}

func readTwice(os []api.Object, name string) bool {
	return ofTwo(os, func(a, b api.Object) bool {
		return globalOf(a, name) >= 0 && (globalOf(b, name) >= 0 || tableOf(b, name) >= 0)
	})
}

func readUndefined(os []api.Object, name string) bool {
	wanted := slices.ContainsFunc(os, func(o api.Object) bool { return slices.Contains(o.Externs, name) })
	return wanted && !slices.ContainsFunc(os, func(o api.Object) bool { return globalOf(o, name) >= 0 })
}

func readShape(os []api.Object, name string) bool {
	return ofTwo(os, func(a, b api.Object) bool {
		i, j := tableOf(a, name), tableOf(b, name)
		if i < 0 || j < 0 {
			return false
		}
		s, t := a.Tables[i], b.Tables[j]
		return s.Kind != t.Kind || s.Key != t.Key || s.Value != t.Value || s.Entries != t.Entries
	})
}

// readNames gives all names of all objects, rising, each once.
func readNames(os []api.Object) []string {
	var list []string
	for _, o := range os {
		for _, f := range o.Funcs {
			list = append(list, f.Name)
		}
		for _, t := range o.Tables {
			list = append(list, t.Name)
		}
		list = append(list, o.Externs...)
	}
	slices.Sort(list)
	return slices.Compact(list)
}

// readMerge gives what Merge is to answer.
func readMerge(os []api.Object) (api.Names, string, api.Errno) {
	if len(os) > 64 {
		return api.Names{}, "", api.ErrLinkMany
	}
	for _, o := range os {
		if _, e := object.Check(o); e != api.OK {
			return api.Names{}, "", api.ErrLinkObject
		}
	}
	list := readNames(os)
	for _, row := range []struct {
		holds func([]api.Object, string) bool
		e     api.Errno
	}{{readTwice, api.ErrLinkTwice}, {readUndefined, api.ErrLinkUndefined}, {readShape, api.ErrLinkShape}} {
		for _, name := range list {
			if row.holds(os, name) {
				return api.Names{}, name, row.e
			}
		}
	}
	var all api.Names
	for _, name := range list {
		for number, o := range os {
			if k := globalOf(o, name); k >= 0 {
				all.Funcs = append(all.Funcs, api.Bound{Name: name, Object: number, Func: k})
			}
		}
		for _, o := range os {
			if k := tableOf(o, name); k >= 0 {
				all.Tables = append(all.Tables, o.Tables[k])
				break
			}
		}
	}
	return all, "", api.OK
}
