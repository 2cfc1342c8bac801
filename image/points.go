package image

import (
	"spindle/api"
)

// point is one of the six that an image must meet: where it fails, if it does, and the error.
type point struct {
	fault func(api.Image) (int, bool)
	code  api.Errno
}

func points() []point {
	return []point{
		{countFault, api.ErrImageMany},
		{nameFault, api.ErrImageName},
		{funcFault, api.ErrImageFunc},
		{tableFault, api.ErrImageTable},
		{entryFault, api.ErrImageEntry},
		{insnFault, api.ErrImageInsn},
	}
}

func countFault(im api.Image) (int, bool) {
	switch {
	case slotsOf(im.Text...) > api.MaxImage:
		return 0, true
	case len(im.Funcs) > api.MaxImgFuncs:
		return 1, true
	case len(im.Tables) > api.MaxTables:
		return 2, true
	}
	return 0, false
}

func nameFault(im api.Image) (int, bool) {
	if k, wrong := funcNameFault(im.Funcs); wrong {
		return k, true
	}
	k, wrong := tableNameFault(im.Tables)
	return len(im.Funcs) + k, wrong
}

// owned is a function's name, and the number of its object: two objects may each have a function of one name.
type owned struct {
	name   string
	object int
}

func funcNameFault(fs []api.ImgFunc) (int, bool) {
	ahead := map[owned]int{}
	for k, f := range fs {
		key := owned{f.Name, f.Object}
		if _, taken := ahead[key]; taken || !isName(f.Name) || f.Object < 0 || f.Object >= api.MaxObjects {
			return k, true
		}
		ahead[key] = k
	}
	return 0, false
}

func tableNameFault(ts []api.TableDef) (int, bool) {
	// Every name is above the empty one.
	ahead := ""
	for k, t := range ts {
		if !isName(t.Name) || t.Name <= ahead {
			return k, true
		}
		ahead = t.Name
	}
	return 0, false
}

// funcFault looks for the first function that does not begin where the one ahead ends. What is left of Text is told without adding up any Count that is not looked at yet, as it might wrap round.
func funcFault(im api.Image) (int, bool) {
	begin := 0
	for k, f := range im.Funcs {
		if f.First != begin || f.Count < 1 || f.Count > len(im.Text)-begin {
			return k, true
		}
		begin += f.Count
	}
	return len(im.Funcs), begin < len(im.Text)
}

func tableFault(im api.Image) (int, bool) {
	room := 0
	for k, t := range im.Tables {
		if !tableMay(t) {
			return k, true
		}
		room += sizeOf(t)
	}
	return len(im.Tables), room > api.MaxRoom
}

func entryFault(im api.Image) (int, bool) {
	return 0, im.Entry < 0 || im.Entry >= len(im.Funcs)
}

func insnFault(im api.Image) (int, bool) {
	for k, i := range im.Text {
		if !insnFits(i) {
			return k, true
		}
	}
	return 0, false
}
