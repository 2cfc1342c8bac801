package image

import (
	"spindle/api"
	"spindle/strs"
)

// bytesOf gives the bytes of an image that may be.
func bytesOf(im api.Image) ([]byte, api.Errno) {
	places, names, e := stringsOf(im)
	if e != api.OK {
		return nil, e
	}
	h := head{slotsOf(im.Text...), len(im.Funcs), len(im.Tables), len(names), im.Entry}
	t := &tape{bytes: make([]byte, h.size())}
	t.at = copy(t.bytes, opening)
	t.numbers(h.fields()...)
	t.layText(im.Text)
	t.layFuncs(im, places)
	t.layTables(im.Tables, places[len(im.Funcs):])
	copy(t.bytes[t.at:], names)
	return t.bytes, api.OK
}

// stringsOf gives the strings of an image, and the places in them of the functions' names and then of the tables'.
func stringsOf(im api.Image) ([]int, []byte, api.Errno) {
	table := strs.New()
	var places []int
	for _, name := range namesOf(im) {
		place, e := table.Add(name)
		if e != api.OK {
			return nil, nil, e
		}
		places = append(places, place)
	}
	b, e := table.Bytes()
	return places, b, e
}

func namesOf(im api.Image) []string {
	names := make([]string, 0, len(im.Funcs)+len(im.Tables))
	for _, f := range im.Funcs {
		names = append(names, f.Name)
	}
	for _, t := range im.Tables {
		names = append(names, t.Name)
	}
	return names
}

func (t *tape) layFuncs(im api.Image, places []int) {
	slot := 0
	for k, f := range im.Funcs {
		count := slotsOf(im.Text[f.First : f.First+f.Count]...)
		row := funcRow{places[k], f.Object, slot, count}
		t.numbers(row.fields()...)
		slot += count
	}
}

func (t *tape) layTables(ts []api.TableDef, places []int) {
	for k, d := range ts {
		row := tableRow{places[k], d.Kind, d.Key, d.Value, d.Entries}
		t.numbers(row.fields()...)
	}
}
