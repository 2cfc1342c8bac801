package disasm

import (
	"fmt"
	"math"
	"math/rand"
	"reflect"
	"slices"
	"strconv"
	"strings"
	"testing"

	"spindle/api"
	"spindle/asm"
	"spindle/isa"
	"spindle/line"
	"spindle/module"
	"spindle/object"
)

// text gives a text in which `|` stands for LF and `>` for a tab.
func text(s string) string { return strings.NewReplacer("|", "\n", ">", "\t").Replace(s) }

// short tells the beginning of a thing, as some are long.
func short(x any) string {
	s := fmt.Sprintf("%+v", x)
	return s[:min(len(s), 400)]
}

func exit() api.Insn         { return api.Insn{Op: 0x95} }
func wide() api.Insn         { return api.Insn{Op: 0x18, Dst: 1, Imm: 5} }
func ja(off int) api.Insn    { return api.Insn{Op: 0x05, Off: off} }
func ja32(imm int) api.Insn  { return api.Insn{Op: 0x06, Imm: imm} }
func callSite() api.Insn     { return api.Insn{Op: 0x85, Src: 1, Imm: -1} }
func loadSite() api.Insn     { return api.Insn{Op: 0x18, Dst: 1, Src: 1} }
func exits(n int) []api.Insn { return slices.Repeat([]api.Insn{exit()}, n) }
func wides(n int) []api.Insn { return slices.Repeat([]api.Insn{wide()}, n) }

func callTo(at, name int) api.Reloc { return api.Reloc{At: at, Kind: api.RelCall, Name: name} }
func loadOf(at, name int) api.Reloc { return api.Reloc{At: at, Kind: api.RelTable, Name: name} }

func array(name string) api.TableDef {
	return api.TableDef{Name: name, Kind: api.TableArray, Key: 4, Value: 9, Entries: 3}
}

func hash(name string) api.TableDef {
	return api.TableDef{Name: name, Kind: api.TableHash, Key: 7, Value: 300, Entries: 70}
}

// oneOf gives an object of one function.
func oneOf(parts ...[]api.Insn) api.Object {
	is := slices.Concat(parts...)
	return api.Object{Text: is, Funcs: []api.ObjFunc{{Name: "f", Count: len(is)}}}
}

// manyOf gives an object of functions, one a list.
func manyOf(lists ...[]api.Insn) api.Object {
	var o api.Object
	for k, is := range lists {
		o.Funcs = append(o.Funcs, api.ObjFunc{Name: "f" + strconv.Itoa(k), Global: k%2 == 1, First: len(o.Text), Count: len(is)})
		o.Text = append(o.Text, is...)
	}
	return o
}

// equal holds two objects against each other; nil and empty lists are one.
func equal(a, b api.Object) bool {
	return slices.Equal(a.Text, b.Text) && slices.Equal(a.Funcs, b.Funcs) && slices.Equal(a.Tables, b.Tables) &&
		slices.Equal(a.Externs, b.Externs) && slices.Equal(a.Relocs, b.Relocs)
}

// same holds two modules against each other.
func same(a, b api.Module) bool {
	return slices.Equal(a.Tables, b.Tables) && slices.Equal(a.Externs, b.Externs) &&
		slices.EqualFunc(a.Funcs, b.Funcs, func(f, g api.Func) bool {
			return f.Name == g.Name && f.Global == g.Global && slices.Equal(f.Body, g.Body)
		})
}

func assembled(t *testing.T, s string) api.Object {
	t.Helper()
	o, at, e := asm.Assemble([]byte(text(s)))
	if e != api.OK {
		t.Fatalf("Assemble(%q) = %d, %d", short(s), at, e)
	}
	return o
}

// checkObject holds Module and Text against the second reading, and what they give against the object.
func checkObject(t *testing.T, o api.Object) api.Errno {
	t.Helper()
	m, at, e := Module(o)
	want, wantAt, wantE := readModule(o)
	if !same(m, want) || at != wantAt || e != wantE {
		t.Fatalf("P14.1: Module(%s) = %s, %d, %d, want %s, %d, %d", short(o), short(m), at, e, short(want), wantAt, wantE)
	}
	s, at, e := Text(o)
	wantText, _, _ := readText(o)
	if s != wantText || at != wantAt || e != wantE {
		t.Fatalf("P14.2: Text(%s) = %q, %d, %d, want %q, %d, %d", short(o), short(s), at, e, short(wantText), wantAt, wantE)
	}
	if e == api.OK {
		checkBack(t, o)
	}
	return e
}

// checkBack: of an object that Module takes the module, the text and the object are one another's.
func checkBack(t *testing.T, o api.Object) {
	t.Helper()
	m, at, e := Module(o)
	s, textAt, textE := Text(o)
	if at != 0 || e != api.OK || textAt != 0 || textE != api.OK {
		t.Fatalf("P14.3: Module(%s) tells %d, %d, Text %d, %d", short(o), at, e, textAt, textE)
	}
	if printed, e := module.Print(m); printed != s || e != api.OK || len(s) >= api.MaxText {
		t.Fatalf("P14.2: module.Print(%s) = %q, %d, Text %q", short(m), short(printed), e, short(s))
	}
	if again, at, e := asm.Object(m); !equal(again, o) || at != 0 || e != api.OK {
		t.Fatalf("P14.3: asm.Object(%s) = %s, %d, %d, want %s", short(m), short(again), at, e, short(o))
	}
	if again, at, e := module.Parse([]byte(s)); !same(again, m) || at != 0 || e != api.OK {
		t.Fatalf("P14.3: module.Parse(%q) = %s, %d, %d, want %s", short(s), short(again), at, e, short(m))
	}
	again, at, e := asm.Assemble([]byte(s))
	if !equal(again, o) || at != 0 || e != api.OK {
		t.Fatalf("P14.3, T5: asm.Assemble(%q) = %s, %d, %d, want %s", short(s), short(again), at, e, short(o))
	}
	if fixed, at, e := Text(again); fixed != s || at != 0 || e != api.OK {
		t.Fatalf("T5: Text of %q = %q, %d, %d", short(s), short(fixed), at, e)
	}
}

// checkAssembled: a text that Assemble takes comes back as its module, and as a text of the same object.
func checkAssembled(t *testing.T, s []byte) bool {
	t.Helper()
	o, _, e := asm.Assemble(s)
	if e != api.OK {
		return false
	}
	if e := checkObject(t, o); e != api.OK {
		t.Fatalf("P14.3, T4: Text of the object of %q tells %d", short(string(s)), e)
	}
	want, _, _ := module.Parse(s)
	if m, _, _ := Module(o); !same(m, want) {
		t.Fatalf("P14.1: Module of the object of %q = %s, want %s", short(string(s)), short(m), short(want))
	}
	return true
}

// checkText: an object has a text.
func checkText(t *testing.T, o api.Object, want string) {
	t.Helper()
	if s, at, e := Text(o); s != text(want) || at != 0 || e != api.OK {
		t.Errorf("P14.2: Text(%s) = %q, %d, %d, want %q, 0, OK", short(o), short(s), at, e, want)
	}
	checkObject(t, o)
}

// checkRefused: what both calls tell of an object that has neither module nor text.
func checkRefused(t *testing.T, what string, o api.Object, wantAt int, want api.Errno) {
	t.Helper()
	if m, at, e := Module(o); !same(m, api.Module{}) || at != wantAt || e != want {
		t.Errorf("P14.1: %s: Module(%s) = %s, %d, %d, want %d, %d", what, short(o), short(m), at, e, wantAt, want)
	}
	if s, at, e := Text(o); s != "" || at != wantAt || e != want {
		t.Errorf("P14.2: %s: Text(%s) = %q, %d, %d, want %d, %d", what, short(o), short(s), at, e, wantAt, want)
	}
	checkObject(t, o)
}

func TestExamples(t *testing.T) {
	checkText(t, api.Object{}, "")
	checkText(t, assembled(t, ""), "")
	for _, row := range [][2]string{
		{".func f|x: ja x|exit", ".func f|L0:|>ja L0|>exit|"},
		{".func f|ja x|lddw r1, 5|x: exit", ".func f|>ja L2|>lddw r1, 5|L2:|>exit|"},
		{".global g|.map t array 4 8 2|.func g|ldmap r1, t|call h|exit|.extern h", ".extern h|.map t array 4 8 2|.global g|.func g|>ldmap r1, t|>call h|>exit|"},
	} {
		checkText(t, assembled(t, row[0]), row[1])
	}
	second, third := assembled(t, ".func f|x: ja x|exit"), assembled(t, ".func f|ja x|lddw r1, 5|x: exit")
	second.Text[0].Off, third.Text[0].Off = 2, 1
	checkRefused(t, "the second one with Off 2", second, 0, api.ErrDisasmFlow)
	checkRefused(t, "the third one with Off 1", third, 0, api.ErrDisasmFlow)
	checkRefused(t, "a function with Count 0", api.Object{Text: exits(1), Funcs: []api.ObjFunc{{Name: "f", Count: 1}, {Name: "g", First: 1}}}, 1, api.ErrObjectFunc)
}

// whole gives an object that has everything.
func whole() api.Object {
	return api.Object{
		Text: []api.Insn{
			wide(), loadSite(), callSite(), ja(-6), exit(),
			callSite(), ja32(0), exit(),
			loadSite(), callSite(), callSite(), {Op: 0x85, Imm: 1}, {Op: 0x16, Dst: 2, Off: -3, Imm: 7},
			callSite(), exit(),
		},
		Funcs:   []api.ObjFunc{{Name: "main", Global: true, First: 0, Count: 5}, {Name: "zed", First: 5, Count: 3}, {Name: "a.b$c", Global: true, First: 8, Count: 5}, {Name: "_", First: 13, Count: 2}},
		Tables:  []api.TableDef{hash("t1"), array("t0"), hash("Counts")},
		Externs: []string{"x", "ext2"},
		Relocs:  []api.Reloc{loadOf(1, 2), callTo(2, 5), callTo(5, 2), loadOf(8, 0), callTo(9, 1), callTo(10, 4), callTo(13, 3)},
	}
}

// wholeModule gives the module of that object.
func wholeModule() api.Module {
	plain := func(i api.Insn) api.Step { return api.Step{Insn: i, Branch: -1} }
	site := func(i api.Insn, name string) api.Step { return api.Step{Insn: i, Target: name, Branch: -1} }
	return api.Module{
		Funcs: []api.Func{
			{Name: "main", Global: true, Body: []api.Step{plain(wide()), site(loadSite(), "Counts"), site(callSite(), "ext2"), {Insn: ja(0), Branch: 0}, plain(exit())}},
			{Name: "zed", Body: []api.Step{site(callSite(), "a.b$c"), {Insn: ja32(0), Branch: 2}, plain(exit())}},
			{Name: "a.b$c", Global: true, Body: []api.Step{site(loadSite(), "t1"), site(callSite(), "zed"), site(callSite(), "x"), plain(api.Insn{Op: 0x85, Imm: 1}), {Insn: api.Insn{Op: 0x16, Dst: 2, Imm: 7}, Branch: 2}}},
			{Name: "_", Body: []api.Step{site(callSite(), "_"), plain(exit())}},
		},
		Tables:  []api.TableDef{hash("t1"), array("t0"), hash("Counts")},
		Externs: []string{"x", "ext2"},
	}
}

func TestWhole(t *testing.T) {
	if m, at, e := Module(whole()); !same(m, wholeModule()) || at != 0 || e != api.OK {
		t.Errorf("P14.1: Module(whole) = %+v, %d, %d, want %+v", m, at, e, wholeModule())
	}
	checkText(t, whole(), ".extern x|.extern ext2|.map t1 hash 7 300 70|.map t0 array 4 9 3|.map Counts hash 7 300 70|"+
		".global main|.func main|L0:|>lddw r1, 5|>ldmap r1, Counts|>call ext2|>ja L0|>exit|"+
		".func zed|>call a.b$c|>ja32 L2|L2:|>exit|"+
		".global a.b$c|.func a.b$c|>ldmap r1, t1|>call zed|L2:|>call x|>call 1|>jeq32 r2, 7, L2|"+
		".func _|>call _|>exit|")
}

// TestNoFunctions: tables and externs alone are an object too.
func TestNoFunctions(t *testing.T) {
	checkText(t, api.Object{Externs: []string{"b", "a"}}, ".extern b|.extern a|")
	checkText(t, api.Object{Tables: []api.TableDef{array("b"), hash("a")}}, ".map b array 4 9 3|.map a hash 7 300 70|")
}

// TestOddNames: any name may stand anywhere, also one that is a label in the text, a mnemonic or a register.
func TestOddNames(t *testing.T) {
	long := strings.Repeat("L", 64)
	o := api.Object{
		Text:    []api.Insn{callSite(), callSite(), ja(-3), loadSite(), callSite(), callSite(), ja32(-5)},
		Funcs:   []api.ObjFunc{{Name: "L0", Count: 3}, {Name: "exit", Global: true, First: 3, Count: 4}},
		Tables:  []api.TableDef{hash("ja")},
		Externs: []string{"r1", long},
		Relocs:  []api.Reloc{callTo(0, 1), callTo(1, 0), loadOf(3, 0), callTo(4, 2), callTo(5, 3)},
	}
	checkText(t, o, ".extern r1|.extern "+long+"|.map ja hash 7 300 70|.func L0|L0:|>call exit|>call L0|>ja L0|"+
		".global exit|.func exit|L0:|>ldmap r1, ja|>call r1|>call "+long+"|>ja32 L0|")
}

// oddNames gives names that are words of the language, labels of the text, or of every byte that a name may have.
func oddNames() []string {
	names := append(line.Words(), strings.Fields("func global extern map array hash L0 L1 L2 L00 x0 x1f __ e9 a. a$ a._$.$ A")...)
	for k := range 11 {
		names = append(names, "r"+strconv.Itoa(k))
	}
	for _, c := range "abcdefghijklmnopqrstuvwxyzABCDEFGHIJKLMNOPQRSTUVWXYZ_0123456789.$" {
		names = append(names, "q"+string(c), "q"+strings.Repeat(string(c), 63))
	}
	return names
}

// TestEachOddName: each as a function's name, a table's and an extern's.
func TestEachOddName(t *testing.T) {
	t.Parallel()
	for _, name := range oddNames() {
		is := []api.Insn{callSite(), loadSite(), callSite(), {Op: 0x1d, Off: -5}}
		relocs := []api.Reloc{callTo(0, 0), loadOf(1, 0), callTo(2, 1)}
		for k := range 3 {
			names := []string{"F", "T", "X"}
			names[k] = name
			o := api.Object{Text: is, Funcs: []api.ObjFunc{{Name: names[0], Global: true, Count: 4}}, Tables: []api.TableDef{hash(names[1])}, Externs: []string{names[2]}, Relocs: relocs}
			if e := checkObject(t, o); e != api.OK {
				t.Errorf("P14.1: names %q: %d, want OK", names, e)
			}
		}
	}
}

// eachInsn gives instructions that may be, of every opcode and every fixed field, with fields at their bounds.
func eachInsn() []api.Insn {
	var is []api.Insn
	for _, op := range isa.Ops() {
		for _, off := range []int{0, 1, 8, 16, 32, -32768, 32767} {
			for _, imm := range []int{0, 1, 16, 64, 0x40, 0xa1, 0xe1, 0xf1, -1, math.MinInt32, math.MaxInt32, math.MinInt, math.MaxInt} {
				for _, src := range []int{0, 1, 10} {
					for _, dst := range []int{0, 10} {
						if i := (api.Insn{Op: op, Dst: dst, Src: src, Off: off, Imm: imm}); isa.May(i) == api.OK {
							is = append(is, i)
						}
					}
				}
			}
		}
	}
	return is
}

// TestInstructions: all fields but a branch's distance are as the instruction has them.
func TestInstructions(t *testing.T) {
	t.Parallel()
	o := api.Object{Tables: []api.TableDef{hash("t")}}
	var want []api.Step
	for _, i := range eachInsn() {
		s := api.Step{Insn: i, Branch: -1}
		switch {
		case i.Op == 0x06:
			if i.Imm != 0 {
				continue
			}
			s.Branch = len(want)
			i.Imm = -1
		case branches(i.Op):
			if i.Off != 0 {
				continue
			}
			s.Branch = len(want)
			i.Off = -1
		case i.Op == 0x85 && i.Src == 1:
			if i.Imm != -1 {
				continue
			}
			s.Target = "f"
			o.Relocs = append(o.Relocs, callTo(len(want), 0))
		case i.Op == 0x18 && i.Src == 1:
			if i.Imm != 0 {
				continue
			}
			s.Target = "t"
			o.Relocs = append(o.Relocs, loadOf(len(want), 0))
		}
		o.Text, want = append(o.Text, i), append(want, s)
	}
	o.Funcs = []api.ObjFunc{{Name: "f", Count: len(want)}}
	m, at, e := Module(o)
	if at != 0 || e != api.OK || len(m.Funcs) != 1 || !slices.Equal(m.Funcs[0].Body, want) {
		t.Errorf("P14.1: Module = %s, %d, %d, want %s", short(m), at, e, short(want))
	}
	seen := map[int]bool{}
	for _, i := range o.Text {
		seen[i.Op] = true
	}
	if len(seen) != 119 {
		t.Errorf("P14.1: %d opcodes of 119", len(seen))
	}
	checkObject(t, o)
}

func numbered(what string, n int) []string {
	list := make([]string, n)
	for k := range list {
		list[k] = what + strconv.Itoa(k)
	}
	return list
}

// TestRelocs: each callable name and each table, as many as there may be.
func TestRelocs(t *testing.T) {
	t.Parallel()
	o := api.Object{Externs: numbered("x", 1024)}
	for _, name := range numbered("t", 1024) {
		o.Tables = append(o.Tables, array(name))
	}
	var want [][]string
	for k, name := range numbered("f", 1024) {
		first := len(o.Text)
		o.Text = append(o.Text, callSite(), loadSite(), callSite(), exit())
		o.Funcs = append(o.Funcs, api.ObjFunc{Name: name, Global: k%3 == 0, First: first, Count: 4})
		o.Relocs = append(o.Relocs, callTo(first, 2047-k), loadOf(first+1, (k+7)%1024), callTo(first+2, (k+1000)%1024))
		want = append(want, []string{"x" + strconv.Itoa(1023-k), "t" + strconv.Itoa((k+7)%1024), "f" + strconv.Itoa((k+1000)%1024), ""})
	}
	m, at, e := Module(o)
	if at != 0 || e != api.OK || len(m.Funcs) != 1024 {
		t.Fatalf("P14.1: Module = %s, %d, %d", short(m), at, e)
	}
	for k, f := range m.Funcs {
		var got []string
		for _, s := range f.Body {
			got = append(got, s.Target)
		}
		if !slices.Equal(got, want[k]) || f.Name != "f"+strconv.Itoa(k) || f.Global != (k%3 == 0) {
			t.Fatalf("P14.1: function %d is %+v, want the targets %q", k, f, want[k])
		}
	}
	checkBack(t, o)
}

// faults gives changes of the whole object that layer 12 refuses, and what it tells of each.
func faults() []struct {
	spoil func(*api.Object)
	at    int
	want  api.Errno
} {
	return []struct {
		spoil func(*api.Object)
		at    int
		want  api.Errno
	}{
		{func(o *api.Object) { o.Text = append(o.Text, exits(65520)...) }, 0, api.ErrObjectMany},
		{func(o *api.Object) { o.Funcs = slices.Repeat(o.Funcs, 257) }, 1, api.ErrObjectMany},
		{func(o *api.Object) { o.Tables = slices.Repeat(o.Tables, 342) }, 2, api.ErrObjectMany},
		{func(o *api.Object) { o.Externs = numbered("x", 1025) }, 3, api.ErrObjectMany},
		{func(o *api.Object) { o.Funcs[2].Name = "" }, 2, api.ErrObjectName},
		{func(o *api.Object) { o.Tables[1].Name = "1a" }, 5, api.ErrObjectName},
		{func(o *api.Object) { o.Externs[1] = strings.Repeat("a", 65) }, 8, api.ErrObjectName},
		{func(o *api.Object) { o.Externs[1] = "zed" }, 8, api.ErrObjectTwice},
		{func(o *api.Object) { o.Tables[1].Name = "main" }, 5, api.ErrObjectTwice},
		{func(o *api.Object) { o.Funcs[0].First = 1 }, 0, api.ErrObjectFunc},
		{func(o *api.Object) { o.Funcs[1].First = math.MinInt }, 1, api.ErrObjectFunc},
		{func(o *api.Object) { o.Funcs[2].Count = math.MaxInt }, 2, api.ErrObjectFunc},
		{func(o *api.Object) { o.Funcs[3].Count = 1 }, 4, api.ErrObjectFunc},
		{func(o *api.Object) { o.Funcs = nil; o.Relocs = nil }, 0, api.ErrObjectFunc},
		{func(o *api.Object) { o.Tables[1].Key = 8 }, 1, api.ErrObjectTable},
		{func(o *api.Object) { o.Tables[2].Entries = math.MaxInt }, 2, api.ErrObjectTable},
		{func(o *api.Object) { o.Text[4].Op = 0 }, 4, api.ErrObjectInsn},
		{func(o *api.Object) { o.Text[12].Off = 32768 }, 12, api.ErrObjectInsn},
		{func(o *api.Object) { o.Text[6].Imm = math.MaxInt }, 6, api.ErrObjectInsn},
		{func(o *api.Object) { o.Text[9].Imm = 0 }, 9, api.ErrObjectInsn},
		{func(o *api.Object) { o.Relocs[3].At = 7 }, 3, api.ErrObjectReloc},
		{func(o *api.Object) { o.Relocs[1].Name = 6 }, 1, api.ErrObjectReloc},
		{func(o *api.Object) { o.Relocs[1].Name = -1 }, 1, api.ErrObjectReloc},
		{func(o *api.Object) { o.Relocs[0].Name = 3 }, 0, api.ErrObjectReloc},
		{func(o *api.Object) { o.Relocs[2].Kind = api.RelTable }, 2, api.ErrObjectReloc},
		{func(o *api.Object) { o.Relocs = o.Relocs[:6] }, 6, api.ErrObjectReloc},
		{func(o *api.Object) { o.Relocs = append(o.Relocs, callTo(15, 0)) }, 7, api.ErrObjectReloc},
	}
}

// TestCheckFirst: of an object that may not be the error and the number are layer 12's, wherever its branches lead.
func TestCheckFirst(t *testing.T) {
	for k, row := range faults() {
		what := "fault " + strconv.Itoa(k)
		o := whole()
		row.spoil(&o)
		checkRefused(t, what, o, row.at, row.want)
		o = whole()
		o.Text[3].Off = 100
		row.spoil(&o)
		checkRefused(t, what+" and a branch", o, row.at, row.want)
	}
}

// someText gives a text of chance, most of which is right: names are declared somewhere, labels stand in their functions.
func someText(r *rand.Rand) string {
	pick := func(from ...string) string { return from[r.Intn(len(from))] }
	var directives, ls []string
	for k := range r.Intn(4) {
		directives = append(directives, fmt.Sprintf(".extern x%d", k), fmt.Sprintf("\t.map t%d %s", k, pick("hash 3 0x9 4", "array 4 1 65536")))
	}
	funcs := r.Intn(4)
	for k := range funcs {
		if r.Intn(2) == 0 {
			directives = append(directives, fmt.Sprintf(".global f%d ; why", k))
		}
		ls = append(ls, fmt.Sprintf(".func f%d", k))
		size := 1 + r.Intn(7)
		for n := range size {
			label := fmt.Sprintf("l%d:", n) + pick("", " ", "|", "||;|", ">")
			to := fmt.Sprintf("l%d", r.Intn(size))
			ls = append(ls, label+pick("exit", "exit", "lddw r3, -0x10", "mov r1 , r2\r", "call 7", "ja "+to, "ja32 "+to,
				"jeq r1, 0x1, "+to, "jne r1,5,"+to, "jsle32 r1, r2, "+to, fmt.Sprintf("call f%d", r.Intn(funcs)),
				fmt.Sprintf("call x%d", r.Intn(3)), fmt.Sprintf("ldmap r9, t%d", r.Intn(3)), "stxdw [r10-8], r1"))
		}
	}
	for _, d := range directives {
		ls = slices.Insert(ls, r.Intn(len(ls)+1), d)
	}
	return text(strings.Join(ls, "|") + pick("", "|"))
}

// TestSomeTexts: every text that is an object's comes back.
func TestSomeTexts(t *testing.T) {
	t.Parallel()
	r := rand.New(rand.NewSource(14))
	taken := 0
	for range 20000 {
		if checkAssembled(t, []byte(someText(r))) {
			taken++
		}
	}
	if taken < 5000 {
		t.Errorf("only %d texts were taken", taken)
	}
}

// TestBytes: an object read from its bytes has the same text.
func TestBytes(t *testing.T) {
	t.Parallel()
	r := rand.New(rand.NewSource(141))
	for range 1000 {
		o, _, e := asm.Assemble([]byte(someText(r)))
		if e != api.OK {
			continue
		}
		b, _, _ := object.Write(o)
		again, at, e := object.Read(b)
		if e != api.OK {
			t.Fatalf("object.Read of %s = %d, %d", short(o), at, e)
		}
		want, _, _ := Text(o)
		if s, at, e := Text(again); s != want || at != 0 || e != api.OK {
			t.Fatalf("T14: Text = %q, %d, %d, want %q", short(s), at, e, short(want))
		}
	}
}

// roomy gives a list with the same items, and spare room behind them that is filled with an item.
func roomy[E any](list []E, filler E) []E {
	wider := append(slices.Clone(list), slices.Repeat([]E{filler}, 3)...)
	return wider[:len(list)]
}

// allOf gives a list with its spare room.
func allOf[E any](list []E) []E { return slices.Clone(list[:cap(list)]) }

// roomyWhole gives the whole object with spare room behind each list, filled with what would fit there.
func roomyWhole() api.Object {
	o := whole()
	return api.Object{
		Text:    roomy(o.Text, callSite()),
		Funcs:   roomy(o.Funcs, api.ObjFunc{Name: "room", First: 15, Count: 1}),
		Tables:  roomy(o.Tables, hash("room")),
		Externs: roomy(o.Externs, "room"),
		Relocs:  roomy(o.Relocs, callTo(15, 0)),
	}
}

// stateOf gives all of an object, its spare room too.
func stateOf(o api.Object) []any {
	return []any{allOf(o.Text), allOf(o.Funcs), allOf(o.Tables), allOf(o.Externs), allOf(o.Relocs)}
}

// TestArgumentsAreLeft: neither what is handed in nor its spare room is changed.
func TestArgumentsAreLeft(t *testing.T) {
	o := roomyWhole()
	for _, off := range []int{-6, 100} {
		o.Text[3].Off = off
		before := stateOf(o)
		Module(o)
		Text(o)
		if after := stateOf(o); !reflect.DeepEqual(before, after) {
			t.Errorf("R4: %s is %s now", short(before), short(after))
		}
	}
	o.Text[3].Off = -6
	checkObject(t, o)
}

// spoilModule writes over all of a module, and behind its lists.
func spoilModule(m api.Module) {
	funcs, tables, externs := m.Funcs[:cap(m.Funcs)], m.Tables[:cap(m.Tables)], m.Externs[:cap(m.Externs)]
	for k := range funcs {
		body := funcs[k].Body[:cap(funcs[k].Body)]
		for j := range body {
			body[j] = api.Step{Target: "spoilt"}
		}
		funcs[k] = api.Func{Name: "spoilt"}
	}
	for k := range tables {
		tables[k] = api.TableDef{Name: "spoilt"}
	}
	for k := range externs {
		externs[k] = "spoilt"
	}
}

// TestAnswersAreNew: whoever writes into an answer changes neither an argument nor another answer.
func TestAnswersAreNew(t *testing.T) {
	o := roomyWhole()
	before := stateOf(o)
	first, _, _ := Module(o)
	second, _, _ := Module(o)
	spoilModule(first)
	if after := stateOf(o); !reflect.DeepEqual(before, after) {
		t.Errorf("R4: an object shares memory with its module: %s", short(after[2:]))
	}
	if !same(second, wholeModule()) {
		t.Errorf("R4: two modules share memory: %+v", second)
	}
	if third, _, _ := Module(o); !same(third, wholeModule()) {
		t.Errorf("R4: Module = %+v behind writes into an answer", third)
	}
	// A list handed in may be written over when the call is done.
	s, _, _ := Text(o)
	want := strings.Clone(s)
	clear(o.Text)
	clear(o.Funcs)
	clear(o.Tables)
	clear(o.Externs)
	clear(o.Relocs)
	if !same(second, wholeModule()) || s != want {
		t.Errorf("R4: an answer keeps its object's memory: %+v, %q", second, s)
	}
}

// TestBodiesAreApart: what is written behind one list of an answer changes no other one.
func TestBodiesAreApart(t *testing.T) {
	m, _, _ := Module(whole())
	for k := range m.Funcs {
		_ = append(m.Funcs[k].Body, slices.Repeat([]api.Step{{Target: "spoilt"}}, 8)...)
	}
	if !same(m, wholeModule()) {
		t.Errorf("R4: bodies of one module share memory: %+v", m)
	}
}

// TestSideBySide: calls at one time have nothing to do with each other.
func TestSideBySide(t *testing.T) {
	o := whole()
	want, _, _ := readText(o)
	for k := range 8 {
		t.Run(strconv.Itoa(k), func(t *testing.T) {
			t.Parallel()
			for range 200 {
				m, _, _ := Module(o)
				s, _, _ := Text(o)
				if !same(m, wholeModule()) || s != want {
					t.Fatalf("R5: %+v, %q", m, s)
				}
			}
		})
	}
}
