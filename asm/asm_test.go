package asm

import (
	"bytes"
	"errors"
	"fmt"
	"math"
	"math/rand"
	"reflect"
	"slices"
	"strconv"
	"strings"
	"testing"

	"spindle/api"
	"spindle/isa"
	"spindle/module"
	"spindle/object"
)

// text gives a text in which `|` stands for LF.
func text(s string) []byte { return []byte(strings.ReplaceAll(s, "|", "\n")) }

// lines gives a line so many times.
func lines(line string, n int) string { return strings.Repeat(line+"|", n) }

// short tells the beginning of a thing, as some are long.
func short(x any) string {
	s := fmt.Sprintf("%+v", x)
	return s[:min(len(s), 400)]
}

func plain(i api.Insn) api.Step { return api.Step{Insn: i, Branch: -1} }
func exit() api.Step            { return plain(api.Insn{Op: 0x95}) }
func lddw() api.Step            { return plain(api.Insn{Op: 0x18, Dst: 1, Imm: 5}) }
func ja(to int) api.Step        { return api.Step{Insn: api.Insn{Op: 0x05}, Branch: to} }
func ja32(to int) api.Step      { return api.Step{Insn: api.Insn{Op: 0x06}, Branch: to} }
func call(name string) api.Step {
	return api.Step{Insn: api.Insn{Op: 0x85, Src: 1, Imm: -1}, Target: name, Branch: -1}
}
func ldmap(name string) api.Step {
	return api.Step{Insn: api.Insn{Op: 0x18, Dst: 1, Src: 1}, Target: name, Branch: -1}
}

func steps(s api.Step, n int) []api.Step { return slices.Repeat([]api.Step{s}, n) }

func body(parts ...[]api.Step) []api.Step { return slices.Concat(parts...) }

func function(name string, body ...api.Step) api.Func { return api.Func{Name: name, Body: body} }

func global(f api.Func) api.Func {
	f.Global = true
	return f
}

func array(name string) api.TableDef {
	return api.TableDef{Name: name, Kind: api.TableArray, Key: 4, Value: 9, Entries: 3}
}

func hash(name string) api.TableDef {
	return api.TableDef{Name: name, Kind: api.TableHash, Key: 7, Value: 300, Entries: 70}
}

// equal holds two objects against each other; nil and empty lists are one.
func equal(a, b api.Object) bool {
	return slices.Equal(a.Text, b.Text) && slices.Equal(a.Funcs, b.Funcs) && slices.Equal(a.Tables, b.Tables) &&
		slices.Equal(a.Externs, b.Externs) && slices.Equal(a.Relocs, b.Relocs)
}

// checkMay: what is given may be; beside an error nothing is given.
func checkMay(t *testing.T, what string, o api.Object, e api.Errno) {
	t.Helper()
	if e != api.OK {
		if !equal(o, api.Object{}) {
			t.Fatalf("R2: %s: %s beside the error %d", what, short(o), e)
		}
		return
	}
	if at, e := object.Check(o); at != 0 || e != api.OK {
		t.Fatalf("P13.4: %s: object.Check(%s) = %d, %d", what, short(o), at, e)
	}
}

// checkModule holds Object against the second reading.
func checkModule(t *testing.T, m api.Module) api.Errno {
	t.Helper()
	o, at, e := Object(m)
	want, wantAt, wantE := readObject(m)
	if !equal(o, want) || at != wantAt || e != wantE {
		t.Fatalf("P13.1: Object(%s) = %s, %d, %d, want %s, %d, %d", short(m), short(o), at, e, short(want), wantAt, wantE)
	}
	checkMay(t, "Object", o, e)
	return e
}

// checkText holds Assemble against the second reading and against Object, and Why against Assemble.
func checkText(t *testing.T, s []byte) api.Errno {
	t.Helper()
	o, at, e := Assemble(s)
	want, wantAt, wantE := readAssemble(s)
	if !equal(o, want) || at != wantAt || e != wantE {
		t.Fatalf("P13.2: Assemble(%q) = %s, %d, %d, want %s, %d, %d", short(string(s)), short(o), at, e, short(want), wantAt, wantE)
	}
	checkMay(t, "Assemble", o, e)
	checkWhy(t, s, at, e)
	if e != api.OK {
		return e
	}
	m, _, _ := module.Parse(s)
	if again, at, e := Object(m); !equal(again, o) || at != 0 || e != api.OK {
		t.Fatalf("P13.4: Object of the module of %q = %s, %d, %d, want %s", short(string(s)), short(again), at, e, short(o))
	}
	return e
}

func checkWhy(t *testing.T, s []byte, at int, e api.Errno) {
	t.Helper()
	why := Why(s)
	if e == api.OK {
		if why != nil {
			t.Fatalf("P13.3: Why(%q) = %v, want nil", short(string(s)), why)
		}
		return
	}
	f, ok := why.(*api.Fault)
	if !ok || *f != (api.Fault{Wrong: api.WrongText, Code: e, At: at}) {
		t.Fatalf("P13.3: Why(%q) = %+v, want WrongText, %d, %d", short(string(s)), why, e, at)
	}
}

// checkObject: a text is an object.
func checkObject(t *testing.T, s string, want api.Object) {
	t.Helper()
	if o, at, e := Assemble(text(s)); !equal(o, want) || at != 0 || e != api.OK {
		t.Errorf("P13.2: Assemble(%q) = %s, %d, %d, want %s, 0, OK", short(s), short(o), at, e, short(want))
	}
	checkText(t, text(s))
}

// checkLine: what Assemble tells of a text beside the object.
func checkLine(t *testing.T, s string, wantAt int, want api.Errno) {
	t.Helper()
	if _, at, e := Assemble(text(s)); at != wantAt || e != want {
		t.Errorf("P13.2: Assemble(%q) tells %d, %d, want %d, %d", short(s), at, e, wantAt, want)
	}
	checkText(t, text(s))
}

// checkStep: what Object tells of a module beside the object.
func checkStep(t *testing.T, what string, m api.Module, wantAt int, want api.Errno) {
	t.Helper()
	if _, at, e := Object(m); at != wantAt || e != want {
		t.Errorf("P13.1: %s: Object(%s) tells %d, %d, want %d, %d", what, short(m), at, e, wantAt, want)
	}
	checkModule(t, m)
}

func TestExamples(t *testing.T) {
	exits := func(n int) string { return lines("exit", n) }
	checkObject(t, "", api.Object{})
	checkObject(t, ".func f|x: ja x|lddw r1, 5|jeq r1, 0, x|exit", api.Object{
		Text:  []api.Insn{{Op: 0x05, Off: -1}, {Op: 0x18, Dst: 1, Imm: 5}, {Op: 0x15, Dst: 1, Off: -4}, {Op: 0x95}},
		Funcs: []api.ObjFunc{{Name: "f", Count: 4}},
	})
	checkObject(t, ".func f|ja32 x|lddw r1, 5|x: exit", api.Object{
		Text:  []api.Insn{{Op: 0x06, Imm: 2}, {Op: 0x18, Dst: 1, Imm: 5}, {Op: 0x95}},
		Funcs: []api.ObjFunc{{Name: "f", Count: 3}},
	})
	checkObject(t, ".extern h|.map t hash 1 1 1|.func f|call h|ldmap r1, t|call g|exit|.global g|.func g|exit", api.Object{
		Text:    []api.Insn{{Op: 0x85, Src: 1, Imm: -1}, {Op: 0x18, Dst: 1, Src: 1}, {Op: 0x85, Src: 1, Imm: -1}, {Op: 0x95}, {Op: 0x95}},
		Funcs:   []api.ObjFunc{{Name: "f", First: 0, Count: 4}, {Name: "g", Global: true, First: 4, Count: 1}},
		Tables:  []api.TableDef{{Name: "t", Kind: api.TableHash, Key: 1, Value: 1, Entries: 1}},
		Externs: []string{"h"},
		Relocs:  []api.Reloc{{At: 0, Kind: api.RelCall, Name: 2}, {At: 1, Kind: api.RelTable, Name: 0}, {At: 2, Kind: api.RelCall, Name: 1}},
	})
	checkLine(t, ".func f|ja x|"+exits(32768)+"x: exit", 2, api.ErrAsmBranch)
	o, at, e := Assemble(text(".func f|ja x|" + exits(32767) + "x: exit"))
	if len(o.Text) != 32769 || o.Text[0].Off != 32767 || at != 0 || e != api.OK {
		t.Errorf("P13.2: ja over 32767 = %s, %d, %d", short(o), at, e)
	}
	checkLine(t, ".func f|"+exits(65536), 0, api.OK)
	checkLine(t, ".func f|"+exits(65537), 65538, api.ErrAsmLong)
	checkLine(t, ".func f|"+exits(65535)+"lddw r1, 5", 65537, api.ErrAsmLong)
	checkLine(t, many(".extern x%d", 1025), 1025, api.ErrAsmMany)
	checkLine(t, ".func f|ja x|"+exits(40000)+"?", 40003, api.ErrLexByte)
}

// many gives so many lines, each with its number.
func many(line string, n int) string {
	var b strings.Builder
	for k := range n {
		b.WriteString(strings.ReplaceAll(line, "%d", strconv.Itoa(k)) + "|")
	}
	return b.String()
}

func TestWhy(t *testing.T) {
	for _, row := range []struct {
		s    string
		at   int
		want api.Errno
	}{
		{"?", 1, api.ErrLexByte},
		{".func f|exit|?", 3, api.ErrLexByte},
		{".func f|call g", 2, api.ErrModuleName},
		{".func f|" + lines("exit", 65537), 65538, api.ErrAsmLong},
		{strings.Repeat(" ", api.MaxText+1), 0, api.ErrLexLong},
	} {
		why := Why(text(row.s))
		var f *api.Fault
		if !errors.As(why, &f) || *f != (api.Fault{Wrong: api.WrongText, Code: row.want, At: row.at}) {
			t.Errorf("P13.3: Why(%q) = %+v, want WrongText, %d, At %d", short(row.s), why, row.want, row.at)
		}
		if !errors.Is(why, api.WrongText) || !errors.Is(why, row.want) || errors.Is(why, api.WrongLink) || errors.Is(why, api.WrongImage) {
			t.Errorf("R7: Why(%q) = %+v", short(row.s), why)
		}
		if again := Why(text(row.s)); again == why {
			t.Errorf("R7: Why(%q) hands one fault out twice", short(row.s))
		}
	}
	for _, s := range []string{"", "|", ".extern x", ".func f|exit"} {
		if why := Why(text(s)); why != nil {
			t.Errorf("P13.3: Why(%q) = %v, want nil", s, why)
		}
	}
}

// eachInsn gives instructions that may be, of every opcode and every fixed field, with fields at their bounds.
func eachInsn() []api.Insn {
	var is []api.Insn
	for _, op := range isa.Ops() {
		for _, off := range []int{0, 1, 8, 16, 32, -32768, 32767} {
			for _, imm := range []int{0, 1, 16, 64, 0x40, 0xa1, 0xe1, 0xf1, -1, math.MinInt32, math.MaxInt32, math.MinInt, math.MaxInt} {
				for _, src := range []int{0, 1, 10} {
					for _, dst := range []int{0, 10} {
						if i := (api.Insn{Op: op, Dst: dst, Src: src, Off: off, Imm: imm}); isa.May(i) == api.OK {
							is = append(is, i)
						}
					}
				}
			}
		}
	}
	return is
}

// TestInstructions: all fields but a branch's distance are as the step has them.
func TestInstructions(t *testing.T) {
	t.Parallel()
	var b []api.Step
	var want []api.Insn
	for _, i := range eachInsn() {
		s := plain(i)
		switch {
		case branches(i.Op):
			if i.Op == 0x06 && i.Imm != 0 || i.Off != 0 {
				continue
			}
			s.Branch = len(b)
			if i.Op == 0x06 {
				i.Imm = -1
			} else {
				i.Off = -1
			}
		case i.Op == 0x85 && i.Src == 1:
			if i.Imm != -1 {
				continue
			}
			s.Target = "f"
		case i.Op == 0x18 && i.Src == 1:
			if i.Imm != 0 {
				continue
			}
			s.Target = "t"
		}
		b, want = append(b, s), append(want, i)
	}
	m := api.Module{Funcs: []api.Func{function("f", b...)}, Tables: []api.TableDef{hash("t")}}
	o, at, e := Object(m)
	if at != 0 || e != api.OK || !slices.Equal(o.Text, want) {
		t.Errorf("P13.1: Object = %s, %d, %d, want %s", short(o), at, e, short(want))
	}
	seen := map[int]bool{}
	for _, i := range o.Text {
		seen[i.Op] = true
	}
	if len(seen) != 119 {
		t.Errorf("P13.1: %d opcodes of 119", len(seen))
	}
	checkModule(t, m)
	printed, _ := module.Print(m)
	checkObject(t, printed, o)
}

// whole gives a module that has everything.
func whole() api.Module {
	return api.Module{
		Funcs: []api.Func{
			global(function("main", lddw(), ldmap("Counts"), call("ext2"), ja(0), exit())),
			function("zed", call("a.b$c"), ja32(2), exit()),
			global(function("a.b$c", ldmap("t1"), call("zed"), call("x"), plain(api.Insn{Op: 0x85, Imm: 1}), ja(2))),
			function("_", call("_"), exit()),
		},
		Tables:  []api.TableDef{hash("t1"), array("t0"), hash("Counts")},
		Externs: []string{"x", "ext2"},
	}
}

func TestWhole(t *testing.T) {
	o, at, e := Object(whole())
	want := api.Object{
		Text: []api.Insn{
			{Op: 0x18, Dst: 1, Imm: 5}, {Op: 0x18, Dst: 1, Src: 1}, {Op: 0x85, Src: 1, Imm: -1}, {Op: 0x05, Off: -6}, {Op: 0x95},
			{Op: 0x85, Src: 1, Imm: -1}, {Op: 0x06, Imm: 0}, {Op: 0x95},
			{Op: 0x18, Dst: 1, Src: 1}, {Op: 0x85, Src: 1, Imm: -1}, {Op: 0x85, Src: 1, Imm: -1}, {Op: 0x85, Imm: 1}, {Op: 0x05, Off: -3},
			{Op: 0x85, Src: 1, Imm: -1}, {Op: 0x95},
		},
		Funcs:   []api.ObjFunc{{Name: "main", Global: true, First: 0, Count: 5}, {Name: "zed", First: 5, Count: 3}, {Name: "a.b$c", Global: true, First: 8, Count: 5}, {Name: "_", First: 13, Count: 2}},
		Tables:  []api.TableDef{hash("t1"), array("t0"), hash("Counts")},
		Externs: []string{"x", "ext2"},
		Relocs: []api.Reloc{
			{At: 1, Kind: api.RelTable, Name: 2}, {At: 2, Kind: api.RelCall, Name: 5}, {At: 5, Kind: api.RelCall, Name: 2},
			{At: 8, Kind: api.RelTable, Name: 0}, {At: 9, Kind: api.RelCall, Name: 1}, {At: 10, Kind: api.RelCall, Name: 4}, {At: 13, Kind: api.RelCall, Name: 3},
		},
	}
	if !equal(o, want) || at != 0 || e != api.OK {
		t.Errorf("P13.1: Object(whole) = %+v, %d, %d, want %+v", o, at, e, want)
	}
	checkModule(t, whole())
	checkMay(t, "whole", want, api.OK)
}

// TestRelocs: each callable name and each table, however many there are.
func TestRelocs(t *testing.T) {
	t.Parallel()
	m := moduleOf(1024, 1024, 1024)
	var b []api.Step
	for k := range 1024 {
		b = append(b, call(m.Externs[k]), ldmap(m.Tables[k].Name), call(m.Funcs[k].Name))
	}
	m.Funcs[700].Body = b
	o, at, e := Object(m)
	if at != 0 || e != api.OK || len(o.Relocs) != 3072 {
		t.Fatalf("P13.1: %s, %d, %d, %d relocations", short(o), at, e, len(o.Relocs))
	}
	for k := range 1024 {
		want := []api.Reloc{{At: 700 + 3*k, Kind: 2, Name: 1024 + k}, {At: 701 + 3*k, Kind: 1, Name: k}, {At: 702 + 3*k, Kind: 2, Name: k}}
		if got := o.Relocs[3*k : 3*k+3]; !slices.Equal(got, want) {
			t.Fatalf("P13.1: relocations %v, want %v", got, want)
		}
	}
	checkMay(t, "all names", o, e)
}

// eachList calls f with all lists of up to so many of the items.
func eachList[E any](items []E, most int, f func([]E)) {
	var grow func([]E)
	grow = func(ahead []E) {
		f(ahead)
		if len(ahead) == most {
			return
		}
		for _, x := range items {
			grow(append(ahead[:len(ahead):len(ahead)], x))
		}
	}
	grow(nil)
}

// TestShortTexts: all texts of few lines.
func TestShortTexts(t *testing.T) {
	t.Parallel()
	taken := 0
	items := []string{".func f", ".func g", ".extern h", ".map t array 4 8 2", ".global f", "a:", "a: ja a", "b: lddw r1, 5", "ja b", "ja32 a", "call f", "call h", "ldmap r2, t", "exit", "", "x"}
	eachList(items, 4, func(list []string) {
		s := text(strings.Join(list, "|"))
		if checkText(t, s) == api.OK {
			taken++
		}
	})
	// Behind `.func f` alone every list of the other kinds that names nothing unknown is taken.
	if taken < 1000 {
		t.Errorf("only %d texts were taken", taken)
	}
}

// TestShortModules: all functions of few steps, also such as may not be.
func TestShortModules(t *testing.T) {
	t.Parallel()
	items := []api.Step{exit(), lddw(), ja(0), ja(1), ja(3), ja32(2), call("f"), call("x"), call("t"), ldmap("t"), {Insn: api.Insn{Op: 0x1e, Dst: 1, Src: 2}, Branch: 1}}
	eachList(items, 4, func(list []api.Step) {
		checkModule(t, api.Module{Funcs: []api.Func{function("e", exit()), function("f", list...)}, Tables: []api.TableDef{hash("s"), array("t")}, Externs: []string{"w", "x"}})
	})
}

// someText gives a text of chance, most of which is right: names are declared somewhere, labels stand in their functions.
func someText(r *rand.Rand) string {
	pick := func(from ...string) string { return from[r.Intn(len(from))] }
	var directives, ls []string
	for k := range r.Intn(4) {
		directives = append(directives, fmt.Sprintf(".extern x%d", k), fmt.Sprintf("\t.map t%d %s", k, pick("hash 3 0x9 4", "array 4 1 65536")))
	}
	funcs := r.Intn(4)
	for k := range funcs {
		if r.Intn(2) == 0 {
			directives = append(directives, fmt.Sprintf(".global f%d ; why", k))
		}
		ls = append(ls, fmt.Sprintf(".func f%d", k))
		size := 1 + r.Intn(7)
		for n := range size {
			label := fmt.Sprintf("l%d:", n) + pick("", " ", "|", "||;|", "\t")
			to := fmt.Sprintf("l%d", r.Intn(size))
			ls = append(ls, label+pick("exit", "exit", "lddw r3, -0x10", "mov r1 , r2\r", "call 7", "ja "+to, "ja32 "+to,
				"jeq r1, "+to+"0x1, "+to, "jne r1,5,"+to, "jsle32 r1, r2, "+to, fmt.Sprintf("call f%d", r.Intn(max(funcs, 1))),
				fmt.Sprintf("call x%d", r.Intn(3)), fmt.Sprintf("ldmap r9, t%d", r.Intn(3)), "stxdw [r10-8], r1"))
		}
	}
	for _, d := range directives {
		at := r.Intn(len(ls) + 1)
		ls = slices.Insert(ls, at, d)
	}
	return strings.Join(ls, "|") + pick("", "|")
}

func TestSomeTexts(t *testing.T) {
	t.Parallel()
	r := rand.New(rand.NewSource(13))
	taken := 0
	for range 20000 {
		s := text(someText(r))
		if checkText(t, s) == api.OK {
			taken++
		}
	}
	if taken < 3000 {
		t.Errorf("only %d texts were taken", taken)
	}
}

// TestLabels: a label may be called as anything else is, and is its function's own.
func TestLabels(t *testing.T) {
	checkObject(t, ".func f|f: exit: r1: mov: ja f|ja r1|ja exit|ja mov", api.Object{
		Text:  []api.Insn{{Op: 5, Off: -1}, {Op: 5, Off: -2}, {Op: 5, Off: -3}, {Op: 5, Off: -4}},
		Funcs: []api.ObjFunc{{Name: "f", Count: 4}},
	})
	checkObject(t, ".func f|ja x|lddw r1, 1|x: exit|.func g|ja x|x: lddw r1, 1|ja x", api.Object{
		Text:  []api.Insn{{Op: 5, Off: 2}, {Op: 0x18, Dst: 1, Imm: 1}, {Op: 0x95}, {Op: 5}, {Op: 0x18, Dst: 1, Imm: 1}, {Op: 5, Off: -3}},
		Funcs: []api.ObjFunc{{Name: "f", Count: 3}, {Name: "g", First: 3, Count: 3}},
	})
	checkObject(t, ".func exit|call exit|call r1|exit|.extern r1|.extern t|.map call hash 1 1 1|.map a hash 1 1 1", api.Object{
		Text:    []api.Insn{{Op: 0x85, Src: 1, Imm: -1}, {Op: 0x85, Src: 1, Imm: -1}, {Op: 0x95}},
		Funcs:   []api.ObjFunc{{Name: "exit", Count: 3}},
		Tables:  []api.TableDef{{Name: "call", Kind: 2, Key: 1, Value: 1, Entries: 1}, {Name: "a", Kind: 2, Key: 1, Value: 1, Entries: 1}},
		Externs: []string{"r1", "t"},
		Relocs:  []api.Reloc{{At: 0, Kind: 2, Name: 0}, {At: 1, Kind: 2, Name: 1}},
	})
}

// roomy gives a list with the same items, and spare room behind them that is filled with an item.
func roomy[E any](list []E, filler E) []E {
	wider := append(slices.Clone(list), slices.Repeat([]E{filler}, 3)...)
	return wider[:len(list)]
}

// allOf gives a list with its spare room.
func allOf[E any](list []E) []E { return slices.Clone(list[:cap(list)]) }

// TestArgumentsAreLeft: neither what is handed in nor its spare room is changed.
func TestArgumentsAreLeft(t *testing.T) {
	m := whole()
	m.Tables, m.Externs = roomy(m.Tables, hash("room")), roomy(m.Externs, "room")
	for k := range m.Funcs {
		m.Funcs[k].Body = roomy(m.Funcs[k].Body, call("room"))
	}
	m.Funcs = roomy(m.Funcs, function("room", exit()))
	state := func() []any {
		all := []any{allOf(m.Tables), allOf(m.Externs)}
		for _, f := range allOf(m.Funcs) {
			all = append(all, f.Name, f.Global, len(f.Body), allOf(f.Body))
		}
		return all
	}
	before := state()
	want, _, _ := Object(whole())
	if o, at, e := Object(m); !equal(o, want) || at != 0 || e != api.OK {
		t.Errorf("P13.1: Object = %+v, %d, %d, want %+v", o, at, e, want)
	}
	m.Funcs[0].Body[3].Branch = 5
	Object(m)
	m.Funcs[0].Body[3].Branch = 0
	if after := state(); !reflect.DeepEqual(before, after) {
		t.Errorf("R4: Object changes %+v to %+v", before, after)
	}
	for _, s := range []string{".func f|x: ja x|exit|", ".func f|ja x|exit|", "?"} {
		b := roomy(text(s), 'z')
		all := allOf(b)
		Assemble(b)
		Why(b)
		if !bytes.Equal(allOf(b), all) {
			t.Errorf("R4: %q is %q now", all, allOf(b))
		}
	}
}

// spoil writes over all of an object, and behind it.
func spoil(o api.Object) {
	fill := func(n int, write func(int)) {
		for k := range n {
			write(k)
		}
	}
	text, funcs, tables, externs, relocs := o.Text[:cap(o.Text)], o.Funcs[:cap(o.Funcs)], o.Tables[:cap(o.Tables)], o.Externs[:cap(o.Externs)], o.Relocs[:cap(o.Relocs)]
	fill(len(text), func(k int) { text[k] = api.Insn{Op: 77} })
	fill(len(funcs), func(k int) { funcs[k] = api.ObjFunc{Name: "spoilt"} })
	fill(len(tables), func(k int) { tables[k] = api.TableDef{Name: "spoilt"} })
	fill(len(externs), func(k int) { externs[k] = "spoilt" })
	fill(len(relocs), func(k int) { relocs[k] = api.Reloc{At: 77} })
}

// TestAnswersAreNew: whoever writes into an answer changes neither an argument nor another answer.
func TestAnswersAreNew(t *testing.T) {
	m := whole()
	m.Tables, m.Externs, m.Funcs = roomy(m.Tables, hash("room")), roomy(m.Externs, "room"), roomy(m.Funcs, function("room"))
	tables, externs := allOf(m.Tables), allOf(m.Externs)
	first, _, _ := Object(m)
	second, _, _ := Object(m)
	spoil(first)
	if !slices.Equal(allOf(m.Tables), tables) || !slices.Equal(allOf(m.Externs), externs) || !reflect.DeepEqual(m.Funcs, whole().Funcs) {
		t.Errorf("R4: a module shares memory with its object")
	}
	want, _, _ := readObject(whole())
	if !equal(second, want) {
		t.Errorf("R4: two objects share memory: %+v", second)
	}
	if third, _, _ := Object(m); !equal(third, want) {
		t.Errorf("R4: Object = %+v behind writes into an answer", third)
	}
	// A list handed in may be written over when the call is done.
	clear(m.Tables)
	clear(m.Externs)
	for _, f := range m.Funcs {
		clear(f.Body)
	}
	if !equal(second, want) {
		t.Errorf("R4: an object keeps its module's memory: %+v", second)
	}
	printed, _ := module.Print(whole())
	b := []byte(printed)
	taken, _, _ := Assemble(b)
	other, _, _ := Assemble(b)
	spoil(other)
	for k := range b {
		b[k] = 'z'
	}
	if !equal(taken, want) {
		t.Errorf("R4: an object keeps its text's memory, or another object's: %+v", taken)
	}
	one, two := Why([]byte("?")).(*api.Fault), Why([]byte("?")).(*api.Fault)
	*one = api.Fault{}
	if *two != (api.Fault{Wrong: api.WrongText, Code: api.ErrLexByte, At: 1}) {
		t.Errorf("R7: two faults share memory: %+v", two)
	}
}

// TestEveryByte: a text with one byte turned, taken out or laid in.
func TestEveryByte(t *testing.T) {
	t.Parallel()
	printed, _ := module.Print(whole())
	for at := range len(printed) {
		ahead, behind := printed[:at], printed[at+1:]
		checkText(t, []byte(ahead))
		checkText(t, []byte(ahead+behind))
		for _, c := range "\n\r :;x0?.L\x00" {
			checkText(t, []byte(ahead+string(c)+behind))
			checkText(t, []byte(ahead+string(c)+printed[at:]))
		}
	}
}

// TestSideBySide: calls at one time have nothing to do with each other.
func TestSideBySide(t *testing.T) {
	printed, _ := module.Print(whole())
	want, _, _ := readObject(whole())
	for k := range 8 {
		t.Run(strconv.Itoa(k), func(t *testing.T) {
			t.Parallel()
			for range 200 {
				o, _, _ := Assemble([]byte(printed))
				again, _, _ := Object(whole())
				if !equal(o, want) || !equal(again, want) {
					t.Fatalf("R5: %+v, %+v, want %+v", o, again, want)
				}
			}
		})
	}
}
