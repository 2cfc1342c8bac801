package link

import (
	"reflect"
	"slices"
	"strconv"
	"testing"

	"spindle/api"
)

// whole gives objects that have everything.
func whole() []api.Object {
	return objs(
		".extern g|.map b array 4 1 1|.map a hash 9 9 9|.global m|.func f|exit|.func m|call g|ldmap r1, b|call f|exit",
		".global g|.func f|ldmap r2, c|exit|.func g|call f|call m|exit|.map c array 4 1 1|.map a hash 9 9 9|.extern m",
	)
}

func wholeImage() api.Image {
	return api.Image{
		Text: []api.Insn{
			{Op: 0x95}, {Op: 0x85, Src: 1, Imm: 3}, {Op: 0x18, Dst: 1, Src: 1, Imm: 1}, {Op: 0x85, Src: 1, Imm: 0}, {Op: 0x95},
			{Op: 0x18, Dst: 2, Src: 1, Imm: 2}, {Op: 0x95}, {Op: 0x85, Src: 1, Imm: 2}, {Op: 0x85, Src: 1, Imm: 1}, {Op: 0x95},
		},
		Funcs: []api.ImgFunc{{Name: "f", Count: 1}, {Name: "m", First: 1, Count: 4}, {Name: "f", Object: 1, First: 5, Count: 2}, {Name: "g", Object: 1, First: 7, Count: 3}},
		Tables: []api.TableDef{
			{Name: "a", Kind: api.TableHash, Key: 9, Value: 9, Entries: 9}, {Name: "b", Kind: api.TableArray, Key: 4, Value: 1, Entries: 1}, {Name: "c", Kind: api.TableArray, Key: 4, Value: 1, Entries: 1},
		},
		Entry: 1,
	}
}

func TestWhole(t *testing.T) {
	if im, name, e := Link(whole(), "m"); !same(im, wholeImage()) || name != "" || e != api.OK {
		t.Errorf("P16.1: Link(whole) = %+v, %q, %d, want %+v", im, name, e, wholeImage())
	}
	checkAllOrders(t, whole(), "m")
}

// roomy gives a list with the same items, and spare room behind them that is filled with an item.
func roomy[E any](list []E, filler E) []E {
	wider := append(slices.Clone(list), slices.Repeat([]E{filler}, 3)...)
	return wider[:len(list)]
}

// roomyObjects gives objects with spare room behind each list, filled with what would fit there.
func roomyObjects(os []api.Object) []api.Object {
	list := make([]api.Object, len(os))
	for k, o := range os {
		list[k] = api.Object{
			Text:    roomy(o.Text, api.Insn{Op: 0x95}),
			Funcs:   roomy(o.Funcs, api.ObjFunc{Name: "room", Global: true, First: len(o.Text), Count: 1}),
			Tables:  roomy(o.Tables, array("chamber", 1, 1)),
			Externs: roomy(o.Externs, "hall"),
			Relocs:  roomy(o.Relocs, api.Reloc{At: len(o.Text), Kind: api.RelCall}),
		}
	}
	return roomy(list, objs(".global room|.func room|exit|.extern hall|.map chamber array 4 1 1")[0])
}

// allOf gives a list with its spare room.
func allOf[E any](list []E) []E { return slices.Clone(list[:cap(list)]) }

// stateOf gives all of the objects, their spare room too.
func stateOf(os []api.Object) []any {
	var all []any
	for _, o := range allOf(os) {
		all = append(all, allOf(o.Text), allOf(o.Funcs), allOf(o.Tables), allOf(o.Externs), allOf(o.Relocs), len(o.Text), len(o.Funcs), len(o.Tables), len(o.Externs), len(o.Relocs))
	}
	return all
}

// TestArgumentsAreLeft: neither what is handed in nor its spare room is changed or looked at.
func TestArgumentsAreLeft(t *testing.T) {
	long := append(whole(), slices.Repeat([]api.Object{manyOf(1024)}, 4)...)
	for _, row := range []struct {
		os    []api.Object
		entry string
		want  api.Errno
	}{
		{whole(), "m", api.OK},
		{whole(), "room", api.ErrLinkEntry},
		{whole()[:1], "m", api.ErrLinkUndefined},
		{append(whole(), whole()...), "m", api.ErrLinkTwice},
		{append(whole(), tablesOf(array("a", 1, 1))), "m", api.ErrLinkShape},
		{append(whole(), wrongObjects()...), "m", api.ErrLinkObject},
		{slices.Repeat(whole(), 33), "m", api.ErrLinkMany},
		{long, "m", api.ErrLinkLong},
	} {
		os := roomyObjects(row.os)
		before := stateOf(os)
		if e := checkLink(t, os, row.entry); e != row.want {
			t.Errorf("R4: %s: %d, want %d", short(os), e, row.want)
		}
		if after := stateOf(os); !reflect.DeepEqual(before, after) {
			t.Errorf("R4: %s is %s now", short(before), short(after))
		}
	}
}

// spoilImage writes over all of an answer, and behind its lists.
func spoilImage(im api.Image) {
	for k := range im.Text[:cap(im.Text)] {
		im.Text[:cap(im.Text)][k] = api.Insn{Op: 77}
	}
	for k := range im.Funcs[:cap(im.Funcs)] {
		im.Funcs[:cap(im.Funcs)][k] = api.ImgFunc{Name: "spoilt"}
	}
	for k := range im.Tables[:cap(im.Tables)] {
		im.Tables[:cap(im.Tables)][k] = api.TableDef{Name: "spoilt"}
	}
}

// TestAnswersAreNew: whoever writes into an answer changes neither an argument nor another answer, and the other way round.
func TestAnswersAreNew(t *testing.T) {
	for _, os := range [][]api.Object{whole(), roomyObjects(whole())} {
		before := stateOf(os)
		first, _, _ := Link(os, "m")
		second, _, _ := Link(os, "m")
		spoilImage(first)
		if after := stateOf(os); !reflect.DeepEqual(before, after) {
			t.Errorf("R4: objects share memory with their image: %s", short(after))
		}
		if !same(second, wholeImage()) {
			t.Errorf("R4: two answers share memory: %+v", second)
		}
		if third, _, _ := Link(os, "m"); !same(third, wholeImage()) {
			t.Errorf("R4: Link = %+v behind writes into an answer", third)
		}
		for _, o := range os {
			clear(o.Text)
			clear(o.Funcs)
			clear(o.Tables)
			clear(o.Externs)
			clear(o.Relocs)
		}
		clear(os)
		if !same(second, wholeImage()) {
			t.Errorf("R4: an answer keeps its objects' memory: %+v", second)
		}
	}
	alone := objs(".global m|.func m|exit")
	first, _, _ := Link(alone, "m")
	first.Text[0].Op, first.Funcs[0].Count = 0, 7
	if im, _, e := Link(alone, "m"); e != api.OK || im.Text[0].Op != 0x95 || im.Funcs[0].Count != 1 || alone[0].Text[0].Op != 0x95 {
		t.Errorf("R4: an object alone shares memory with its image: %+v, %d", im, e)
	}
}

// TestFaultsAreNew: whoever writes into a fault changes no other.
func TestFaultsAreNew(t *testing.T) {
	first := Why(nil, "m").(*api.Fault)
	*first = api.Fault{Wrong: api.WrongText, Name: "spoilt"}
	checkWhy(t, nil, "m", "m", api.ErrLinkEntry)
}

// TestNilAndEmpty: nil and empty lists are one.
func TestNilAndEmpty(t *testing.T) {
	empty := api.Object{Text: []api.Insn{}, Funcs: []api.ObjFunc{}, Tables: []api.TableDef{}, Externs: []string{}, Relocs: []api.Reloc{}}
	for _, os := range [][]api.Object{nil, {}, {{}}, {empty}, {{}, empty}} {
		if im, name, e := Link(os, "m"); !nothing(im) || name != "m" || e != api.ErrLinkEntry {
			t.Errorf("R1: Link(%+v) = %+v, %q, %d, want m, ErrLinkEntry", os, im, name, e)
		}
		checkLink(t, os, "")
		one := objs(".global m|.func m|exit")
		im, name, e := Link(append(slices.Clone(os), one...), "m")
		if name != "" || e != api.OK || len(im.Text) != 1 || im.Entry != 0 || im.Funcs[0].Object != len(os) {
			t.Errorf("R1: Link(%+v and m) = %+v, %q, %d", os, im, name, e)
		}
	}
}

// TestSideBySide: calls at one time have nothing to do with each other.
func TestSideBySide(t *testing.T) {
	os := whole()
	for k := range 8 {
		t.Run(strconv.Itoa(k), func(t *testing.T) {
			t.Parallel()
			for range 200 {
				if im, name, e := Link(os, "m"); !same(im, wholeImage()) || name != "" || e != api.OK {
					t.Fatalf("R5: %+v, %q, %d", im, name, e)
				}
				checkWhy(t, os, "f", "f", api.ErrLinkEntry)
			}
		})
	}
}
