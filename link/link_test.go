package link

import (
	"errors"
	"fmt"
	"slices"
	"strings"
	"testing"

	"spindle/api"
	"spindle/asm"
	"spindle/disasm"
	"spindle/object"
)

// short tells the beginning of a thing, as some are long.
func short(x any) string {
	s := fmt.Sprintf("%+v", x)
	return s[:min(len(s), 400)]
}

// objs gives the objects of texts in which `|` stands for LF.
func objs(texts ...string) []api.Object {
	var os []api.Object
	for _, s := range texts {
		o, at, e := asm.Assemble([]byte(strings.ReplaceAll(s, "|", "\n")))
		if e != api.OK {
			panic(fmt.Sprintf("%s: %d, %d", s, at, e))
		}
		os = append(os, o)
	}
	return os
}

// toldImage tells an image: of each function its name, object, first instruction and count; of each site its number and Imm; the tables; the entry.
func toldImage(im api.Image) string {
	var words []string
	for _, f := range im.Funcs {
		words = append(words, fmt.Sprintf("%s(%d,%d,%d)", f.Name, f.Object, f.First, f.Count))
	}
	for at, i := range im.Text {
		switch {
		case i.Op == 0x85 && i.Src == 1:
			words = append(words, fmt.Sprintf("%d:call=%d", at, i.Imm))
		case i.Op == 0x18 && i.Src == 1:
			words = append(words, fmt.Sprintf("%d:ldmap=%d", at, i.Imm))
		}
	}
	for _, d := range im.Tables {
		words = append(words, fmt.Sprintf("%s[%d]", d.Name, d.Entries))
	}
	return strings.Join(append(words, fmt.Sprintf("entry=%d", im.Entry)), " ")
}

// checkWhy: what Why tells beside the name and the error of Link, a new fault each time.
func checkWhy(t *testing.T, os []api.Object, entry, name string, e api.Errno) {
	t.Helper()
	why := Why(os, entry)
	if e == api.OK {
		if why != nil {
			t.Fatalf("P16.2: Why(%s, %q) = %v, want nil", short(os), entry, why)
		}
		return
	}
	f, is := why.(*api.Fault)
	if !is || f == nil || *f != (api.Fault{Wrong: api.WrongLink, Code: e, Name: name}) {
		t.Fatalf("P16.2: Why(%s, %q) = %+v, want WrongLink, %d, %q", short(os), entry, why, e, name)
	}
	if !errors.Is(why, api.WrongLink) || !errors.Is(why, e) || errors.Is(why, api.WrongText) || errors.Is(why, api.WrongImage) {
		t.Fatalf("R7: Why(%s, %q) = %+v", short(os), entry, why)
	}
	if Why(os, entry) == why {
		t.Fatalf("R7: Why(%s, %q) hands one fault out twice", short(os), entry)
	}
}

// checkImage: which image Link gives, in the list's order; and what holds in every order.
func checkImage(t *testing.T, entry, want string, texts ...string) {
	t.Helper()
	im, name, e := Link(objs(texts...), entry)
	if got := toldImage(im); got != want || name != "" || e != api.OK {
		t.Errorf("P16.1: Link(%q, %s) = %s, %q, %d, want %s", texts, entry, got, name, e, want)
	}
	checkAllOrders(t, objs(texts...), entry)
}

// checkRefused: which name and error Link tells, in every order.
func checkRefused(t *testing.T, entry, name string, want api.Errno, texts ...string) {
	t.Helper()
	im, told, e := Link(objs(texts...), entry)
	if !nothing(im) || told != name || e != want {
		t.Errorf("P16.1: Link(%q, %s) = %s, %q, %d, want nothing, %q, %d", texts, entry, short(im), told, e, name, want)
	}
	checkWhy(t, objs(texts...), entry, name, want)
	checkAllOrders(t, objs(texts...), entry)
}

func TestExamples(t *testing.T) {
	checkImage(t, "m", "m(0,0,1) entry=0", ".global m|.func m|exit")
	checkImage(t, "m", "f(0,0,1) m(0,1,3) f(1,4,1) g(1,5,2) 1:call=3 2:call=0 5:call=2 entry=1",
		".extern g|.global m|.func f|exit|.func m|call g|call f|exit", ".global g|.func f|exit|.func g|call f|exit")
	checkImage(t, "m", "m(0,0,2) 0:ldmap=1 a[1] b[1] entry=0", ".map b array 4 1 1|.global m|.func m|ldmap r1, b|exit", ".map a array 4 1 1")
	checkRefused(t, "m", "m", api.ErrLinkEntry, ".func m|exit")
	checkRefused(t, "m", "m", api.ErrLinkEntry)
	checkRefused(t, "m", "x", api.ErrLinkUndefined, ".extern x")
	im, _, _ := Link(objs(".global m|.func m|exit"), "m")
	if want := (api.Image{Text: []api.Insn{{Op: 0x95}}, Funcs: []api.ImgFunc{{Name: "m", Count: 1}}}); !same(im, want) {
		t.Errorf("P16.1: %+v, want %+v", im, want)
	}
}

// TestCalls: a call means a function of its own object by number, one of another by name, whatever else has that name.
func TestCalls(t *testing.T) {
	checkImage(t, "m", "m(0,0,2) 0:call=0 entry=0", ".global m|.func m|call m|exit")
	checkImage(t, "m", "f(0,0,1) m(1,1,2) f(1,3,1) g(2,4,2) f(2,6,1) 1:call=2 4:call=4 entry=1",
		".func f|exit", ".global m|.func m|call f|exit|.func f|exit", ".func g|call f|exit|.func f|exit")
	checkImage(t, "m", "f(0,0,1) m(1,1,2) x(2,3,1) f(2,4,1) f(3,5,1) 1:call=3 entry=1",
		".func f|exit", ".extern f|.global m|.func m|call f|exit", ".func x|exit|.global f|.func f|exit", ".func f|exit")
	checkImage(t, "b", "a(0,0,3) b(1,3,3) c(2,6,3) 0:call=1 1:call=2 3:call=2 4:call=0 6:call=0 7:call=1 entry=1",
		".extern b|.extern c|.global a|.func a|call b|call c|exit", ".extern a|.extern c|.global b|.func b|call c|call a|exit", ".extern b|.extern a|.global c|.func c|call a|call b|exit")
	checkImage(t, "m", "m(0,0,3) f(0,3,1) z(1,4,1) u(1,5,1) 0:call=2 1:call=1 entry=0", // the call of a helper is no site
		".extern u|.extern z|.global m|.func m|call z|call f|call 1|.func f|exit", ".global z|.func z|exit|.global u|.func u|exit")
}

// TestTables: an ldmap means the table of its name, at the number that it has among all tables by name.
func TestTables(t *testing.T) {
	checkImage(t, "m", "m(0,0,4) 0:ldmap=2 1:ldmap=0 2:ldmap=2 a[3] b[2] c[1] entry=0",
		".map c array 4 1 1|.map a hash 2 3 3|.global m|.func m|ldmap r1, c|ldmap r2, a|ldmap r3, c|exit", ".map b array 4 1 2|.map a hash 2 3 3")
	checkImage(t, "m", "m(0,0,2) f(1,2,3) 0:ldmap=1 2:ldmap=1 3:ldmap=0 s[1] t[1] entry=0",
		".map t array 4 1 1|.global m|.func m|ldmap r1, t|exit", ".map s array 4 1 1|.map t array 4 1 1|.func f|ldmap r1, t|ldmap r2, s|exit")
	checkImage(t, "t", "t(0,0,1) t(1,1,1) u(2,2,2) 2:ldmap=0 a[1] entry=0", ".global t|.func t|exit", ".func t|exit", ".map a array 4 1 1|.func u|ldmap r1, a|exit")
	checkImage(t, "m", "m(0,0,1) s(0,1,2) 1:ldmap=0 s.[1] s0[1] entry=0", ".global m|.func m|exit|.map s. array 4 1 1|.func s|ldmap r1, s.|exit", ".map s0 array 4 1 1")
	im, _, _ := Link(objs(".map b hash 3 5 7|.map a array 4 9 2|.global m|.func m|exit"), "m")
	want := []api.TableDef{{Name: "a", Kind: api.TableArray, Key: 4, Value: 9, Entries: 2}, {Name: "b", Kind: api.TableHash, Key: 3, Value: 5, Entries: 7}}
	if !slices.Equal(im.Tables, want) {
		t.Errorf("P16.1: tables %+v, want %+v", im.Tables, want)
	}
}

// TestOtherInstructions: of all that is no site nothing is changed, branches and wide instructions neither.
func TestOtherInstructions(t *testing.T) {
	os := objs(".func a|exit", ".map t array 4 1 1|.global m|.func m|x: lddw r1, -1|ldmap r2, t|jeq r1, 7, x|ja32 x|call 4|mov r3, -1|add r3, 0|stxdw [r10-8], r3|lddw r4, 0|exit")
	im, _, e := Link(os, "m")
	want := slices.Concat(os[0].Text, os[1].Text)
	if e != api.OK || !slices.Equal(im.Text, want) { // the one site means table 0, so that nothing is left to tell apart
		t.Errorf("P16.1: Text %+v, %d, want %+v", im.Text, e, want)
	}
	checkAllOrders(t, os, "m")
}

// TestEntry: the entry is a global function, whatever else has its name.
func TestEntry(t *testing.T) {
	a, b := ".func e|exit|.global f|.func f|exit|.map t array 4 1 1|.extern g", ".func f|exit|.global g|.func g|exit|.global e|.func e|exit"
	checkImage(t, "e", "e(0,0,1) f(0,1,1) f(1,2,1) g(1,3,1) e(1,4,1) t[1] entry=4", a, b)
	checkImage(t, "f", "e(0,0,1) f(0,1,1) f(1,2,1) g(1,3,1) e(1,4,1) t[1] entry=1", a, b)
	checkImage(t, "g", "e(0,0,1) f(0,1,1) f(1,2,1) g(1,3,1) e(1,4,1) t[1] entry=3", a, b)
	for _, entry := range []string{"t", "", "x", "E", "e ", "ee", "\x00", "1", "\xff\xfe", "é", "e|", strings.Repeat("e", 65), strings.Repeat("e", 1<<20)} {
		checkRefused(t, entry, entry, api.ErrLinkEntry, a, b)
		checkRefused(t, entry, entry, api.ErrLinkEntry)
		checkRefused(t, entry, entry, api.ErrLinkEntry, ".map t array 4 1 1", ".func x|exit", ".func e|exit")
	}
	checkRefused(t, "x", "x", api.ErrLinkUndefined, ".extern x|.func m|exit")
	checkRefused(t, "x", "x", api.ErrLinkUndefined, ".extern x", ".func x|exit")
}

// TestMerge: what is wrong with the names goes ahead of the entry, with names' error and name.
func TestMerge(t *testing.T) {
	m := ".global m|.func m|exit"
	for _, entry := range []string{"m", "none", ""} {
		checkRefused(t, entry, "m", api.ErrLinkTwice, m, m)
		checkRefused(t, entry, "m", api.ErrLinkTwice, m, ".map m array 4 1 1")
		checkRefused(t, entry, "x", api.ErrLinkUndefined, m, ".extern x", ".func x|exit")
		checkRefused(t, entry, "t", api.ErrLinkShape, m, ".map t array 4 1 1", ".map t array 4 1 2")
		checkRefused(t, entry, "x", api.ErrLinkUndefined, m, ".map t array 4 1 1|.extern x", ".map t array 4 1 2")
		checkRefused(t, entry, "m", api.ErrLinkTwice, m, ".map t array 4 1 1|.extern x", ".map t array 4 1 2|.global m|.func m|exit")
		for k, wrong := range wrongObjects() {
			for at := range 3 {
				os := slices.Insert(objs(m, ".extern x|.map m array 4 1 1"), at, wrong)
				if im, name, e := Link(os, entry); !nothing(im) || name != "" || e != api.ErrLinkObject {
					t.Errorf("P16.1: wrong object %d at %d: %s, %q, %d, want ErrLinkObject", k, at, short(im), name, e)
				}
				checkLink(t, os, entry)
			}
		}
	}
}

// wrongObjects gives objects that layer 12 refuses, and which would lead out of their lists if they were gone over.
func wrongObjects() []api.Object {
	call := []api.Insn{{Op: 0x85, Src: 1, Imm: -1}, {Op: 0x18, Dst: 1, Src: 1}}
	function := []api.ObjFunc{{Name: "w", Global: true, Count: 2}}
	table := []api.TableDef{{Name: "t", Kind: api.TableArray, Key: 4, Value: 1, Entries: 1}}
	first, second := api.Reloc{Kind: api.RelCall}, api.Reloc{At: 1, Kind: api.RelTable}
	return []api.Object{
		{Text: []api.Insn{{Op: 0x95}}},
		{Externs: []string{"1"}},
		{Funcs: []api.ObjFunc{{Name: "w", Count: 1}}},
		{Text: call, Funcs: function, Tables: table},
		{Text: call, Funcs: function, Tables: table, Relocs: []api.Reloc{first, {At: 2, Kind: api.RelTable}}},
		{Text: call, Funcs: function, Tables: table, Relocs: []api.Reloc{first, {At: -1, Kind: api.RelTable}}},
		{Text: call, Funcs: function, Tables: table, Relocs: []api.Reloc{first, {At: 1, Kind: api.RelTable, Name: 1}}},
		{Text: call, Funcs: function, Tables: table, Relocs: []api.Reloc{{Kind: api.RelCall, Name: 1}, second}},
		{Text: call, Funcs: function, Tables: table, Relocs: []api.Reloc{{Kind: api.RelCall, Name: -1}, second}},
		{Text: call, Funcs: function, Tables: table, Relocs: []api.Reloc{{Kind: 3}, second}},
	}
}

// TestMany: 64 objects are fine, one more is not, whatever they are.
func TestMany(t *testing.T) {
	o := objs(".func m|call f|exit|.func f|exit")[0]
	os := slices.Repeat([]api.Object{o}, 66)
	os[40] = objs(".func f|exit|.global m|.func m|call f|exit")[0]
	im, name, e := Link(os[:64], "m")
	if name != "" || e != api.OK || im.Entry != 81 || len(im.Text) != 192 || im.Text[189].Imm != 127 || im.Funcs[127] != (api.ImgFunc{Name: "f", Object: 63, First: 191, Count: 1}) {
		t.Errorf("P16.1: 64 objects: %s, %q, %d", short(im), name, e)
	}
	for _, n := range []int{41, 63, 64, 65, 66} {
		want := api.OK
		if n > 64 {
			want = api.ErrLinkMany
		}
		if e := checkLink(t, os[:n], "m"); e != want {
			t.Errorf("P16.1: %d objects: %d, want %d", n, e, want)
		}
		checkLink(t, os[:n], "f")
	}
	for _, os := range [][]api.Object{make([]api.Object, 65), slices.Repeat(wrongObjects()[:1], 65)} {
		if im, name, e := Link(os, "m"); !nothing(im) || name != "" || e != api.ErrLinkMany {
			t.Errorf("P16.1: 65 objects: %s, %q, %d, want ErrLinkMany", short(im), name, e)
		}
		checkWhy(t, os, "m", "", api.ErrLinkMany)
	}
}

// TestReplaced: objects that were bytes, or texts, between give the same image.
func TestReplaced(t *testing.T) {
	texts := []string{
		".extern g|.map b array 4 1 1|.map a hash 9 9 9|.global m|.func f|exit|.func m|x: call g|ldmap r1, b|call f|jne r1, 4, x|exit",
		".global g|.func f|ldmap r2, c|exit|.func g|call f|call m|lddw r1, -5|exit|.map c array 4 1 1|.map a hash 9 9 9|.extern m",
	}
	os := objs(texts...)
	want, _, e := Link(os, "m")
	if e != api.OK {
		t.Fatalf("P16.1: %d", e)
	}
	for k, o := range os {
		b, _, _ := object.Write(o)
		read, _, _ := object.Read(b)
		s, _, _ := disasm.Text(o)
		again, _, _ := asm.Assemble([]byte(s))
		for _, other := range []api.Object{read, again} {
			list := slices.Clone(os)
			list[k] = other
			if im, name, e := Link(list, "m"); !same(im, want) || name != "" || e != api.OK {
				t.Errorf("T14: object %d replaced: %+v, %q, %d, want %+v", k, im, name, e, want)
			}
		}
	}
}
