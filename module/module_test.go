package module

import (
	"fmt"
	"math"
	"math/rand"
	"slices"
	"strings"
	"testing"

	"spindle/api"
	"spindle/line"
	"spindle/parse"
)

// text gives a text that is written with `|` for LF.
func text(s string) []byte { return []byte(strings.ReplaceAll(s, "|", "\n")) }

// short gives the beginning of what may be very long, for messages.
func short(v any) string {
	return fmt.Sprintf("%.400s", fmt.Sprintf("%+v", v))
}

func function(name string, steps ...api.Step) api.Func { return api.Func{Name: name, Body: steps} }
func global(f api.Func) api.Func {
	f.Global = true
	return f
}
func funcs(fs ...api.Func) api.Module { return api.Module{Funcs: fs} }

func plain(i api.Insn) api.Step { return api.Step{Insn: i, Branch: -1} }
func exit() api.Step            { return plain(api.Insn{Op: 0x95}) }
func ja(to int) api.Step        { return api.Step{Insn: api.Insn{Op: 0x05}, Branch: to} }
func call(name string) api.Step {
	return api.Step{Insn: api.Insn{Op: 0x85, Src: 1, Imm: -1}, Target: name, Branch: -1}
}
func ldmap(dst int, name string) api.Step {
	return api.Step{Insn: api.Insn{Op: 0x18, Dst: dst, Src: 1}, Target: name, Branch: -1}
}
func hash(name string, key, value, entries int) api.TableDef {
	return api.TableDef{Name: name, Kind: api.TableHash, Key: key, Value: value, Entries: entries}
}
func array(name string, key, value, entries int) api.TableDef {
	return api.TableDef{Name: name, Kind: api.TableArray, Key: key, Value: value, Entries: entries}
}

// checkSays: Parse of a text is a module, and so is all that follows from it.
func checkSays(t *testing.T, s string, want api.Module) {
	t.Helper()
	m, at, e := Parse(text(s))
	if !same(m, want) || at != 0 || e != api.OK {
		t.Errorf("P7.2: Parse(%.80q) = %s, %d, %d, want %s, 0, OK", s, short(m), at, e, short(want))
	}
	checkBack(t, want)
}

func checkRefused(t *testing.T, s string, wantAt int, want api.Errno) {
	t.Helper()
	if m, at, e := Parse(text(s)); !same(m, api.Module{}) || at != wantAt || e != want {
		t.Errorf("P7.2: Parse(%.80q) = %s, %d, %d, want nothing, %d, %d", s, short(m), at, e, wantAt, want)
	}
}

// checkMake holds Make of statements against their reading by the chapter's words, and Check and Print of the answer.
func checkMake(t *testing.T, ss []api.Statement) {
	t.Helper()
	want, wantAt, wantE := readMake(ss)
	m, at, e := Make(ss)
	if !same(m, want) || at != wantAt || e != wantE {
		t.Errorf("P7.1: Make(%s) = %s, %d, %d, want %s, %d, %d", short(ss), short(m), at, e, short(want), wantAt, wantE)
		return
	}
	if e == api.OK {
		checkBack(t, m)
	}
}

// checkBack: Check takes the module, and Parse of what Print gives is the module again.
func checkBack(t *testing.T, m api.Module) {
	t.Helper()
	if e := Check(m); e != api.OK {
		t.Errorf("P7.5: Check(%s) = %d, want OK", short(m), e)
	}
	printed, e := Print(m)
	back, at, e2 := Parse([]byte(printed))
	if e != api.OK || e2 != api.OK || at != 0 || !same(back, m) {
		t.Errorf("P7.5: Print(%s) = %.200q, %d; Parse of it = %s, %d, %d", short(m), printed, e, short(back), at, e2)
	}
}

// checkModule holds Check and Print of a module against its reading by the chapter's words.
func checkModule(t *testing.T, m api.Module) {
	t.Helper()
	want, wantE := readPrint(m)
	if e := Check(m); e != wantE {
		t.Errorf("P7.3: Check(%s) = %d, want %d", short(m), e, wantE)
	}
	if printed, e := Print(m); printed != want || e != wantE {
		t.Errorf("P7.4: Print(%s) = %.200q, %d, want %.200q, %d", short(m), printed, e, want, wantE)
	}
	if wantE == api.OK {
		checkBack(t, m)
	}
}

func checkCheck(t *testing.T, want api.Errno, m api.Module) {
	t.Helper()
	if e := Check(m); e != want {
		t.Errorf("P7.3: Check(%s) = %d, want %d", short(m), e, want)
	}
	checkModule(t, m)
}

func TestParseExamples(t *testing.T) {
	checkSays(t, "", api.Module{})
	checkSays(t, ".extern f", api.Module{Externs: []string{"f"}})
	checkSays(t, ".func f|exit", funcs(function("f", exit())))
	checkSays(t, ".global f|.func f|a: b: ja b|exit", funcs(global(function("f", ja(0), exit()))))
	checkSays(t, ".func f|.map t hash 2 4 8|ldmap r1, t|call f|exit",
		api.Module{Funcs: []api.Func{function("f", ldmap(1, "t"), call("f"), exit())}, Tables: []api.TableDef{hash("t", 2, 4, 8)}})
	checkRefused(t, ".func f|exit|.func f|exit", 3, api.ErrModuleTwice)
	checkRefused(t, ".extern f|.map f array 4 1 1", 2, api.ErrModuleTwice)
	checkRefused(t, ".func f|a:|exit|a:|exit", 4, api.ErrModuleTwice)
	checkRefused(t, "exit", 1, api.ErrModuleOutside)
	checkRefused(t, "a: .func f|exit", 1, api.ErrModuleOutside)
	checkRefused(t, ".map t array 8 1 1", 1, api.ErrModuleTable)
	checkRefused(t, ".map t hash 64 4096 65536", 1, api.ErrModuleTable)
	checkRefused(t, ".func f|.func g|exit", 1, api.ErrModuleEmpty)
	checkRefused(t, ".global f", 1, api.ErrModuleGlobal)
	checkRefused(t, ".func f|exit|.global f|.global f", 4, api.ErrModuleGlobal)
	checkRefused(t, ".func f|ja x|x:", 3, api.ErrModuleLabel)
	checkRefused(t, ".func f|ja x|exit|.func g|x: exit", 2, api.ErrModuleLabel)
	checkRefused(t, ".func f|call g|exit", 2, api.ErrModuleName)
	checkRefused(t, ".func f|ldmap r1, f|exit", 2, api.ErrModuleName)
	checkRefused(t, ".func f|call g|.func f|exit", 3, api.ErrModuleTwice)
	checkRefused(t, ".func f|ja x|?", 3, api.ErrLexByte)
}

func TestPrintExamples(t *testing.T) {
	for from, want := range map[string]string{
		"":                                  "",
		".global f|.func f|a: b: ja b|exit": ".global f|.func f|L0:|\tja L0|\texit|",
		".func f|.map t hash 2 4 8|ldmap r1, t|call f|exit": ".map t hash 2 4 8|.func f|\tldmap r1, t|\tcall f|\texit|",
		".func f|jeq r1, -7, z|lddw r1, 0xffffffffffffffff|ja32 y|z:y: call 3|call h|.extern h|.map b array 4 4096 9|.extern g|.map a hash 64 1 1|.func e|exit|.global e": ".extern h|.extern g|.map b array 4 4096 9|.map a hash 64 1 1|.func f|\tjeq r1, -7, L3|\tlddw r1, -1|\tja32 L3|L3:|\tcall 3|\tcall h|.global e|.func e|\texit|",
	} {
		m, _, e := Parse(text(from))
		if printed, e2 := Print(m); e != api.OK || e2 != api.OK || printed != string(text(want)) {
			t.Errorf("P7.4: %q: %d, Print = %q, %d, want %q", from, e, printed, e2, want)
		}
	}
}

// A fault of the layers ahead decides over all others, with its own line.
func TestParseOfWrongTexts(t *testing.T) {
	for _, ahead := range []string{"", "exit|", ".func f|.func f|", ".global f|a:|", ".map t hash 0 0 0|", ".func f|ja x|call y|x:|"} {
		at := strings.Count(ahead, "|") + 1
		checkRefused(t, ahead+"?", at, api.ErrLexByte)
		checkRefused(t, ahead+"5|?", at, api.ErrParseToken)
		checkRefused(t, ahead+".func f g", at, api.ErrParseEnd)
		checkRefused(t, ahead+"mov r1", at, api.ErrLineOperand)
		checkRefused(t, ahead+"mov r1, 4294967296|exit", at, api.ErrLineNumber)
		checkRefused(t, ahead+strings.Repeat("|", api.MaxText+1), 0, api.ErrLexLong)
	}
}

// Every mnemonic, with each of the operands that may stand behind one.
func TestSteps(t *testing.T) {
	count := map[string]int{}
	for _, word := range line.Words() {
		for _, operands := range []string{"", "r1", "r1, r2", "r1, 7", "r1, -7", "y", "x", "7", "-1", "r1, t", "r3, r2, y", "r3, 7, x", "r1, [r2-8]", "[r1+8], r2", "[r1+0], 7"} {
			i, target, e := line.Parse(word + " " + operands)
			if e != api.OK || target == "r1" || target == "r2" {
				continue
			}
			want := plain(i)
			switch {
			case word[0] == 'j' && operands[len(operands)-1] == 'y':
				want.Branch = 2
			case word[0] == 'j':
				want.Branch = 0
			case target != "":
				want.Target = target
			}
			count[want.Target+fmt.Sprint(want.Branch)]++
			checkSays(t, ".func f|x: "+word+" "+operands+"|exit|y:||z: exit|.func x|exit|.extern y|.map t hash 1 1 1",
				api.Module{Funcs: []api.Func{function("f", want, exit(), exit()), function("x", exit())}, Externs: []string{"y"}, Tables: []api.TableDef{hash("t", 1, 1, 1)}})
		}
	}
	if count["0"] != 24 || count["2"] != 24 || count["t-1"] != 1 || count["x-1"] != 1 || count["y-1"] != 1 {
		t.Errorf("the steps are %v", count)
	}
}

func TestBranchFields(t *testing.T) {
	checkSays(t, ".func f|jeq r1, 7, x|jsle32 r1, r2, y|x: ja32 x|y: exit", funcs(function("f",
		api.Step{Insn: api.Insn{Op: 0x15, Dst: 1, Imm: 7}, Branch: 2}, api.Step{Insn: api.Insn{Op: 0xde, Dst: 1, Src: 2}, Branch: 3}, api.Step{Insn: api.Insn{Op: 0x06}, Branch: 2}, exit())))
}

func TestTwice(t *testing.T) {
	declarations := []string{".func a|exit", ".extern a", ".map a hash 1 1 1"}
	for _, first := range declarations {
		at := strings.Count(first, "|") + 2
		for _, second := range append(declarations, ".map a hash 0 1 1") {
			checkRefused(t, first+"|"+second, at, api.ErrModuleTwice)
			checkRefused(t, first+"|.extern b|.func c|exit|a: exit|"+second, at+4, api.ErrModuleTwice)
		}
		checkRefused(t, ".map a hash 0 1 1|"+first, 1, api.ErrModuleTable)
	}
	checkSays(t, ".func a|a: exit|A: exit|.func A|a: A: ja a|.extern aa|.map a.a hash 1 1 1", api.Module{
		Funcs: []api.Func{function("a", exit(), exit()), function("A", ja(0))}, Externs: []string{"aa"}, Tables: []api.TableDef{hash("a.a", 1, 1, 1)}})
	checkRefused(t, ".func f|a: exit|b: exit|.func g|b: exit|a: b: exit", 6, api.ErrModuleTwice)
	checkRefused(t, ".func f|a: a: exit", 2, api.ErrModuleTwice)
}

func TestOutside(t *testing.T) {
	for _, first := range []string{"exit", "a:", "ja x", "a: a:", "call f"} {
		checkRefused(t, first, 1, api.ErrModuleOutside)
		checkRefused(t, "||.extern g|.global f|.map t hash 1 1 1|"+first+"|.func f|exit", 6, api.ErrModuleOutside)
	}
	checkSays(t, ".func f|.extern g|.map t hash 1 1 1|.global f|exit", api.Module{Funcs: []api.Func{global(function("f", exit()))}, Externs: []string{"g"}, Tables: []api.TableDef{hash("t", 1, 1, 1)}})
}

func TestGlobals(t *testing.T) {
	f, g := function("f", exit()), function("g", exit())
	checkSays(t, ".global g|.func f|exit|.func g|exit", funcs(f, global(g)))
	checkSays(t, ".func f|exit|.func g|exit|.global f", funcs(global(f), g))
	checkSays(t, ".func f|.global g|.global f|exit|.func g|exit", funcs(global(f), global(g)))
	checkRefused(t, ".extern f|.global f", 2, api.ErrModuleGlobal)
	checkRefused(t, ".map f hash 1 1 1|.global f", 2, api.ErrModuleGlobal)
	checkRefused(t, ".func f|f: g: exit|.global f|.global g", 4, api.ErrModuleGlobal)
	checkRefused(t, ".global f|.global f|.func f|exit", 2, api.ErrModuleGlobal)
	checkRefused(t, ".global f|.global g|.global h|.func f|exit|.func g|exit", 3, api.ErrModuleGlobal)
}

func TestLabels(t *testing.T) {
	checkSays(t, ".func f|a:|b: c: exit|ja c|d: ja a|ja d", funcs(function("f", exit(), ja(0), ja(0), ja(2))))
	checkSays(t, ".func f|ja a|.extern x|a:|.global f|.map t hash 1 1 1|exit", api.Module{Funcs: []api.Func{global(function("f", ja(1), exit()))}, Externs: []string{"x"}, Tables: []api.TableDef{hash("t", 1, 1, 1)}})
	checkSays(t, ".func f|exit|a: ja a|.func g|ja a|exit|exit|a: exit", funcs(function("f", exit(), ja(1)), function("g", ja(3), exit(), exit(), exit())))
	checkRefused(t, ".func f|exit|a:", 3, api.ErrModuleLabel)
	checkRefused(t, ".func f|exit|a:|.func g|exit", 3, api.ErrModuleLabel)
	checkRefused(t, ".func f|a:|.func g|exit", 1, api.ErrModuleEmpty)
	checkRefused(t, ".func f|ja f|.func a|a: exit", 2, api.ErrModuleLabel)
	checkRefused(t, ".func f|a: exit|.func g|jeq r1, 1, a", 4, api.ErrModuleLabel)
	checkRefused(t, ".func f|a: exit|ja A", 3, api.ErrModuleLabel)
}

func TestTargets(t *testing.T) {
	checkSays(t, ".func f|call g|call x|call f|exit|.func g|call f|.extern x", api.Module{Funcs: []api.Func{function("f", call("g"), call("x"), call("f"), exit()), function("g", call("f"))}, Externs: []string{"x"}})
	checkSays(t, ".func mov|call mov|call r1|ldmap r1, r2|.extern r1|.map r2 array 4 1 1", api.Module{Funcs: []api.Func{function("mov", call("mov"), call("r1"), ldmap(1, "r2"))}, Externs: []string{"r1"}, Tables: []api.TableDef{array("r2", 4, 1, 1)}})
	checkSays(t, ".func f|call 1|call -1|call 99", funcs(function("f", plain(api.Insn{Op: 0x85, Imm: 1}), plain(api.Insn{Op: 0x85, Imm: -1}), plain(api.Insn{Op: 0x85, Imm: 99}))))
	for _, wrong := range []string{"call t", "call a", "call F", "ldmap r1, f", "ldmap r1, x", "ldmap r1, a", "ldmap r1, T"} {
		checkRefused(t, ".func f|a: "+wrong+"|.extern x|.map t hash 1 1 1", 2, api.ErrModuleName)
	}
}

// The bounds of each number, and of the size.
func TestTables(t *testing.T) {
	numbers := []int{math.MinInt64, math.MinInt32, -4, -1, 0, 1, 2, 3, 4, 5, 7, 8, 9, 63, 64, 65, 4095, 4096, 4097, 65535, 65536, 65537, math.MaxInt32, 1 << 32, 1<<32 + 4, 1 << 58, 1 << 61, 1 << 62, math.MaxInt64}
	for kind := -1; kind <= 4; kind++ {
		for _, n := range numbers {
			for _, other := range numbers {
				checkTable(t, api.TableDef{Name: "t", Kind: kind, Key: n, Value: other, Entries: 1})
				checkTable(t, api.TableDef{Name: "t", Kind: kind, Key: 4, Value: n, Entries: other})
				checkTable(t, api.TableDef{Name: "t", Kind: kind, Key: n, Value: 1, Entries: other})
			}
		}
	}
	for key := 1; key <= 64; key++ {
		for value := 1; value <= 4096; value += 1 + key%5 {
			entries := 16777216 / (key + (value+7)/8*8 + 8)
			checkTable(t, hash("t", key, value, min(entries, 65536)))
			checkTable(t, hash("t", key, value, entries+1))
			if key == 4 {
				checkTable(t, array("t", key, value, min(entries, 65536)))
				checkTable(t, array("t", key, value, entries+1))
			}
		}
	}
	for _, full := range []api.TableDef{hash("t", 8, 240, 65536), hash("t", 8, 233, 65536), hash("t", 8, 4080, 4096), hash("t", 64, 4096, 4025), array("t", 4, 240, 65536)} {
		checkCheck(t, api.OK, api.Module{Tables: []api.TableDef{full}})
	}
	for _, over := range []api.TableDef{hash("t", 9, 240, 65536), hash("t", 8, 241, 65536), hash("t", 8, 4080, 4097), hash("t", 64, 4096, 4026), array("t", 4, 241, 65536), array("t", 8, 1, 1), array("t", 3, 1, 1)} {
		checkCheck(t, api.ErrModuleTable, api.Module{Tables: []api.TableDef{over}})
	}
}

// checkTable holds Check of a table alone, and Make of its statement, against the chapter's words.
func checkTable(t *testing.T, table api.TableDef) {
	t.Helper()
	m := api.Module{Tables: []api.TableDef{hash("s", 1, 1, 1), table}}
	want := api.ErrModuleTable
	if readTableMay(table) {
		want = api.OK
	}
	if e := Check(m); e != want {
		t.Errorf("P7.3: Check of %+v = %d, want %d", table, e, want)
	}
	if table.Kind < 1 || table.Kind > 2 || min(table.Key, table.Value, table.Entries) < 0 || max(table.Key, table.Value, table.Entries) > math.MaxInt32 {
		return
	}
	s := api.Statement{Kind: api.StmtMap, Name: "t", Words: []string{[]string{"", "array", "hash"}[table.Kind]}, Numbers: []int{table.Key, table.Value, table.Entries}, Line: 7}
	made, at, e := Make([]api.Statement{s})
	if e != want || e == api.OK && (at != 0 || !slices.Equal(made.Tables, m.Tables[1:])) || e != api.OK && (at != 7 || !same(made, api.Module{})) {
		t.Errorf("P7.1: Make of %+v = %+v, %d, %d, want %d", s, made, at, e, want)
	}
}

// The sorts of statements that are put together below: each can be right or wrong by what else is there.
func sorts() []api.Statement {
	insn := func(text string) api.Statement {
		i, target, _ := line.Parse(text)
		return api.Statement{Kind: api.StmtInsn, Insn: i, Target: target}
	}
	table := func(name, kind string, numbers ...int) api.Statement {
		return api.Statement{Kind: api.StmtMap, Name: name, Words: []string{kind}, Numbers: numbers}
	}
	return []api.Statement{
		{Kind: api.StmtFunc, Name: "f"}, {Kind: api.StmtFunc, Name: "g"}, {Kind: api.StmtGlobal, Name: "f"}, {Kind: api.StmtGlobal, Name: "t"}, {Kind: api.StmtLabel, Name: "f"}, {Kind: api.StmtLabel, Name: "a"},
		{Kind: api.StmtExtern, Name: "g"}, table("t", "hash", 1, 2, 3), table("f", "array", 5, 1, 1), insn("exit"), insn("ja a"), insn("jeq r1, 2, f"), insn("call f"), insn("call t"), insn("call g"), insn("ldmap r1, t"), insn("ldmap r1, f"),
	}
}

// All short lists, alone and behind others, with several statements on a line.
func TestShortLists(t *testing.T) {
	all := sorts()
	var grow func(ss []api.Statement, more int)
	grow = func(ss []api.Statement, more int) {
		checkMake(t, ss)
		for k := 0; more > 0 && k < len(all); k++ {
			s := all[k]
			s.Line = 3 + len(ss)/2*5
			grow(append(ss[:len(ss):len(ss)], s), more-1)
		}
	}
	grow(nil, 3)
	grow(all[:1], 4)
	grow([]api.Statement{all[0], all[9]}, 3)
	grow([]api.Statement{all[0], all[10], all[1], all[9]}, 3)
}

func TestLists(t *testing.T) {
	r := rand.New(rand.NewSource(7))
	all := sorts()
	good := 0
	for range 60000 {
		ss, at := []api.Statement{}, 1
		for range r.Intn(14) {
			s := all[r.Intn(len(all))]
			if r.Intn(3) == 0 {
				s.Name = []string{"f", "g", "t", "a", "h", "x"}[r.Intn(6)]
			}
			if s.Kind == api.StmtInsn {
				s = all[9+r.Intn(len(all)-9)]
			}
			at += r.Intn(3)
			s.Line = at
			ss = append(ss, s)
		}
		if _, _, e := Make(ss); e == api.OK {
			good++
		}
		checkMake(t, ss)
	}
	if good < 1000 {
		t.Errorf("only %d of the lists are right", good)
	}
}

// someModule gives a module that may be.
func someModule(r *rand.Rand) api.Module {
	var m api.Module
	names := r.Perm(30)
	next := func() string {
		names = names[1:]
		return []string{"f", "L", "mov", "r", "exit_", "a$"}[r.Intn(6)] + fmt.Sprint(names[0])
	}
	for range r.Intn(5) {
		m.Externs = append(m.Externs, next())
	}
	for range r.Intn(4) {
		m.Tables = append(m.Tables, []api.TableDef{hash("", 1+r.Intn(64), 1+r.Intn(200), 1+r.Intn(60000)), array("", 4, 1+r.Intn(4096), 1+r.Intn(4000))}[r.Intn(2)])
		m.Tables[len(m.Tables)-1].Name = next()
	}
	callable := slices.Clone(m.Externs)
	for range r.Intn(5) {
		m.Funcs = append(m.Funcs, api.Func{Name: next(), Global: r.Intn(2) == 0})
		callable = append(callable, m.Funcs[len(m.Funcs)-1].Name)
	}
	for k := range m.Funcs {
		m.Funcs[k].Body = make([]api.Step, 1+r.Intn(12))
		for n := range m.Funcs[k].Body {
			m.Funcs[k].Body[n] = someStep(r, m, callable, len(m.Funcs[k].Body))
		}
	}
	return m
}

func someStep(r *rand.Rand, m api.Module, callable []string, size int) api.Step {
	switch r.Intn(8) {
	case 0:
		return call(callable[r.Intn(len(callable))])
	case 1:
		if len(m.Tables) > 0 {
			return ldmap(r.Intn(11), m.Tables[r.Intn(len(m.Tables))].Name)
		}
	case 2:
		return api.Step{Insn: api.Insn{Op: 0x06}, Branch: r.Intn(size)}
	case 3:
		return api.Step{Insn: api.Insn{Op: []int{0x1d, 0xbe}[r.Intn(2)], Dst: r.Intn(11), Src: r.Intn(11)}, Branch: r.Intn(size)}
	case 4:
		return plain(api.Insn{Op: 0x18, Dst: r.Intn(11), Imm: int(r.Uint64())})
	case 5:
		return plain(api.Insn{Op: 0x85, Imm: r.Intn(10) - 5})
	case 6:
		return api.Step{Insn: api.Insn{Op: 0x56, Dst: r.Intn(11), Imm: -r.Intn(1 << 31)}, Branch: r.Intn(size)}
	}
	return plain(api.Insn{Op: 0x7b, Dst: 10, Src: r.Intn(11), Off: -r.Intn(512)})
}

func TestThereAndBack(t *testing.T) {
	r := rand.New(rand.NewSource(77))
	for range 4000 {
		checkModule(t, someModule(r))
	}
}

func TestNames(t *testing.T) {
	long := strings.Repeat("a", 64)
	for c := range 256 {
		b := string([]byte{byte(c)})
		for _, name := range []string{b, "a" + b, "a" + b + "b", long[1:] + b, b + long[1:]} {
			checkModule(t, funcs(function(name, exit())))
			checkModule(t, api.Module{Tables: []api.TableDef{hash(name, 1, 1, 1)}})
			checkModule(t, api.Module{Externs: []string{"b", name}})
		}
	}
	for _, name := range []string{"", "a", "_", ".a", "$", "1", "a b", "a\n", " a", "a:", long, long + "a", long + long, "é", "mov", "r1", "L0", "a.func", "array"} {
		checkModule(t, funcs(function(name, exit())))
		checkModule(t, funcs(function("f", exit()), function(name, call(name))))
		checkModule(t, api.Module{Tables: []api.TableDef{array(name, 4, 1, 1)}})
		checkModule(t, api.Module{Externs: []string{name}})
	}
	checkCheck(t, api.OK, api.Module{Externs: []string{long}})
	checkCheck(t, api.ErrModuleName, api.Module{Externs: []string{long + "a"}})
	checkCheck(t, api.ErrModuleName, api.Module{Externs: []string{""}})
}

// whole gives a module with each sort of thing in it.
func whole() api.Module {
	return api.Module{
		Funcs: []api.Func{
			global(function("f", api.Step{Insn: api.Insn{Op: 0x15, Dst: 1, Imm: 7}, Branch: 2}, call("g"), ldmap(1, "t"), exit())),
			function("g", api.Step{Insn: api.Insn{Op: 0x06}, Branch: 1}, call("x"), plain(api.Insn{Op: 0x85, Imm: 1}), plain(api.Insn{Op: 0x18, Dst: 1, Imm: 5}), ja(0)),
		},
		Tables:  []api.TableDef{hash("t", 1, 2, 3), array("u", 4, 5, 6)},
		Externs: []string{"x", "y"},
	}
}

// changes gives what can be changed in that module.
func changes() []func(*api.Module) {
	out := []func(*api.Module){
		func(m *api.Module) {},
		func(m *api.Module) { m.Funcs[0].Global = false },
		func(m *api.Module) { m.Funcs[len(m.Funcs)-1].Body = nil },
		func(m *api.Module) { m.Funcs[0].Body = []api.Step{} },
		func(m *api.Module) { m.Funcs[0].Body = m.Funcs[0].Body[:len(m.Funcs[0].Body)/2] },
		func(m *api.Module) { m.Funcs = m.Funcs[:1] },
		func(m *api.Module) { m.Funcs = m.Funcs[len(m.Funcs)-1:] },
		func(m *api.Module) { m.Tables = m.Tables[len(m.Tables)/2:] },
		func(m *api.Module) { m.Tables = nil },
		func(m *api.Module) { m.Externs = m.Externs[len(m.Externs)/2:] },
		func(m *api.Module) { m.Externs = nil },
	}
	for _, name := range []string{"", "1", "f", "g", "t", "u", "x", "y", "z"} {
		out = append(out,
			func(m *api.Module) { m.Externs = append(m.Externs, name) },
			func(m *api.Module) { m.Tables = append(m.Tables, hash(name, 1, 1, 1)) },
			func(m *api.Module) { m.Tables = append(m.Tables, hash(name, 0, 1, 1)) },
			func(m *api.Module) { m.Funcs = append(m.Funcs, function(name, exit())) },
			func(m *api.Module) { m.Funcs = append(m.Funcs, function(name)) },
		)
	}
	for n, f := range whole().Funcs {
		for k := range f.Body {
			out = append(out, stepChanges(n, k)...)
		}
	}
	return out
}

// stepChanges gives what can be changed in a step; where the changes ahead have left no such step they do nothing.
func stepChanges(n, k int) []func(*api.Module) {
	var out []func(*api.Module)
	add := func(change func(*api.Step)) {
		out = append(out, func(m *api.Module) {
			if n < len(m.Funcs) && k < len(m.Funcs[n].Body) {
				change(&m.Funcs[n].Body[k])
			}
		})
	}
	for _, branch := range []int{math.MinInt64, -2, -1, 0, 3, 4, 5, math.MaxInt64} {
		add(func(s *api.Step) { s.Branch = branch })
	}
	for _, target := range []string{"", "f", "x", "t", "z"} {
		add(func(s *api.Step) { s.Target = target })
	}
	for _, imm := range []int{math.MinInt64, -1, 0, 1, math.MaxInt32 + 1} {
		add(func(s *api.Step) { s.Insn.Imm = imm })
	}
	add(func(s *api.Step) { s.Insn.Off = 1 })
	add(func(s *api.Step) { s.Insn.Off = -1 })
	add(func(s *api.Step) { s.Insn.Dst = 11 })
	add(func(s *api.Step) { s.Insn.Src ^= 1 })
	add(func(s *api.Step) { s.Insn.Op = 0x95 })
	add(func(s *api.Step) { s.Insn.Op = 8 })
	add(func(s *api.Step) { s.Insn.Op ^= 3 })
	add(func(s *api.Step) { *s = exit() })
	return out
}

// Each two changes of a module, so that it is seen which error goes ahead.
func TestChanges(t *testing.T) {
	all := changes()
	for _, first := range all {
		for _, second := range all {
			m := whole()
			first(&m)
			second(&m)
			checkModule(t, m)
		}
	}
}

// The errors in the order in which they go ahead of each other.
func TestOrderOfErrors(t *testing.T) {
	faults := []struct {
		e   api.Errno
		put func(*api.Module)
	}{
		{api.ErrModuleName, func(m *api.Module) { m.Externs = append(m.Externs, "?") }},
		{api.ErrModuleTwice, func(m *api.Module) { m.Externs = append(m.Externs, "f") }},
		{api.ErrModuleTable, func(m *api.Module) { m.Tables = append(m.Tables, array("v", 5, 1, 1)) }},
		{api.ErrModuleEmpty, func(m *api.Module) { m.Funcs = append(m.Funcs, function("h")) }},
		{api.ErrIsaField, func(m *api.Module) { m.Funcs[0].Body[0].Insn.Dst = 11 }},
		{api.ErrModuleLabel, func(m *api.Module) { m.Funcs[0].Body[0].Branch = 9 }},
		{api.ErrModuleName, func(m *api.Module) { m.Funcs[0].Body[0].Target = "f" }},
		{api.ErrModuleLabel, func(m *api.Module) { m.Funcs[0].Body[1].Branch = 0 }},
		{api.ErrModuleName, func(m *api.Module) { m.Funcs[0].Body[1].Insn.Imm = 0 }},
		{api.ErrModuleName, func(m *api.Module) { m.Funcs[0].Body[2].Insn.Imm = 1 }},
		{api.ErrModuleLabel, func(m *api.Module) { m.Funcs[0].Body[3].Branch = 0 }},
		{api.ErrModuleLabel, func(m *api.Module) { m.Funcs[1].Body[0].Insn.Imm = 1 }},
		{api.ErrModuleName, func(m *api.Module) { m.Funcs[1].Body[1].Target = "t" }},
		{api.ErrIsaOpcode, func(m *api.Module) { m.Funcs[1].Body[4].Insn.Op = 0 }},
	}
	for n, first := range faults {
		m := whole()
		for _, fault := range faults[n:] {
			fault.put(&m)
			if e := Check(m); e != first.e {
				t.Errorf("P7.3: fault %d and those behind it: Check = %d, want %d", n, e, first.e)
			}
			if printed, e := Print(m); printed != "" || e != first.e {
				t.Errorf("P7.4: fault %d and those behind it: Print = %.80q, %d, want %d", n, printed, e, first.e)
			}
		}
	}
}

// The first pass goes over all statements ahead of the second.
func TestOrderOfPasses(t *testing.T) {
	second := []string{".func e|.func f|exit", ".global n|.func f|exit", ".func f|exit|a:", ".func f|ja n|exit", ".func f|call n|exit", ".func f|ldmap r1, n|exit"}
	first := map[string]api.Errno{".func f": api.ErrModuleTwice, ".extern f": api.ErrModuleTwice, ".map f hash 1 1 1": api.ErrModuleTwice, ".map t hash 0 1 1": api.ErrModuleTable, "b: b: exit": api.ErrModuleTwice}
	for _, ahead := range second {
		if _, _, e := Parse(text(ahead)); e == api.OK {
			t.Errorf("%q is taken", ahead)
		}
		for behind, e := range first {
			checkRefused(t, ahead+"|"+behind+"|"+behind, strings.Count(ahead, "|")+2, e)
		}
	}
	checkRefused(t, ".func f|ja a|.func g|.global h|call i", 2, api.ErrModuleLabel)
	checkRefused(t, ".func f|exit|.func g|.global h|.func i|call j", 3, api.ErrModuleEmpty)
	checkRefused(t, ".func f|exit|a: .global h|.func i|call j", 3, api.ErrModuleLabel)
	checkRefused(t, ".func f|exit|.global h|a:|.func i|call j", 3, api.ErrModuleGlobal)
	checkRefused(t, ".func f|call i|.global h|a:", 2, api.ErrModuleName)
}

// Of statements that may not be nothing is promised, but that Make ends, and always in the same way.
func TestOddStatements(t *testing.T) {
	r := rand.New(rand.NewSource(777))
	names := []string{"", "f", "t", "1", "\n", strings.Repeat("a", 99)}
	numbers := []int{math.MinInt64, -1, 0, 1, 2, 4, 8, 1 << 40, math.MaxInt64}
	ops := []int{-1, 0, 0x05, 0x06, 0x15, 0x18, 0x85, 0x95, 256, math.MaxInt64}
	for range 60000 {
		ss := make([]api.Statement, r.Intn(9))
		for k := range ss {
			pick := func() int { return numbers[r.Intn(len(numbers))] }
			s := api.Statement{Kind: r.Intn(9) - 1, Name: names[r.Intn(6)], Target: names[r.Intn(6)], Line: pick()}
			s.Insn = api.Insn{Op: ops[r.Intn(len(ops))], Dst: pick(), Src: r.Intn(3), Off: pick(), Imm: pick()}
			if r.Intn(2) == 0 {
				s.Insn = api.Insn{Op: s.Insn.Op, Src: s.Insn.Src}
			}
			for range r.Intn(3) {
				s.Words = append(s.Words, []string{"hash", "array", "", "tree"}[r.Intn(4)])
			}
			for range r.Intn(5) {
				s.Numbers = append(s.Numbers, pick())
			}
			ss[k] = s
		}
		m, at, e := Make(ss)
		again, at2, e2 := Make(ss)
		if !same(m, again) || at != at2 || e != e2 {
			t.Fatalf("R5: Make(%s) = %s, %d, %d and %s, %d, %d", short(ss), short(m), at, e, short(again), at2, e2)
		}
		Check(m)
		Print(m)
	}
}

func checkLeft[E any](t *testing.T, what string, got, want []E, alike func(a, b E) bool) {
	t.Helper()
	if !slices.EqualFunc(got, want, alike) {
		t.Errorf("R4: %s is %s, was %s", what, short(got), short(want))
	}
}

// What is handed in is neither changed, nor its spare room, nor kept.
func TestArgumentsAreLeft(t *testing.T) {
	const source = ".func f\n.map t hash 1 2 3\nx: ja x\ncall y\nldmap r1, t\n.extern y\n.global f\n"
	given := append([]byte(source), "spare"...)
	m, _, _ := Parse(given[:len(source)])
	if string(given) != source+"spare" {
		t.Errorf("R4: Parse left %q", given)
	}
	want := api.Module{Funcs: []api.Func{global(function("f", ja(0), call("y"), ldmap(1, "t")))}, Tables: []api.TableDef{hash("t", 1, 2, 3)}, Externs: []string{"y"}}
	for k := range given {
		given[k] = '?'
	}
	if !same(m, want) {
		t.Errorf("R4: Parse keeps the text: %s", short(m))
	}
	ss, _, _ := parse.Statements([]byte(source))
	ss = append(ss, api.Statement{Name: "spare"})[:len(ss)]
	alike := func(a, b api.Statement) bool { return fmt.Sprint(a) == fmt.Sprint(b) }
	before := slices.Clone(ss[:len(ss)+1])
	m, _, _ = Make(ss)
	checkLeft(t, "Make's list", ss[:len(ss)+1], before, alike)
	for k := range ss {
		for n := range ss[k].Numbers {
			ss[k].Numbers[n] = 9
		}
		ss[k] = api.Statement{}
	}
	if !same(m, want) {
		t.Errorf("R4: Make keeps the statements: %s", short(m))
	}
	spare := func(m api.Module) api.Module {
		m = copyOf(m)
		m.Funcs[0].Body = append(m.Funcs[0].Body, exit())[:len(m.Funcs[0].Body)]
		m.Funcs = append(m.Funcs, function("spare"))[:len(m.Funcs)]
		m.Tables = append(m.Tables, hash("spare", 0, 0, 0))[:len(m.Tables)]
		m.Externs = append(m.Externs, "spare")[:len(m.Externs)]
		return m
	}
	handed, kept := spare(want), spare(want)
	Check(handed)
	Print(handed)
	checkLeft(t, "the functions", handed.Funcs[:2], kept.Funcs[:2], sameFunc)
	checkLeft(t, "the body", handed.Funcs[0].Body[:4], kept.Funcs[0].Body[:4], func(a, b api.Step) bool { return a == b })
	checkLeft(t, "the tables", handed.Tables[:2], kept.Tables[:2], func(a, b api.TableDef) bool { return a == b })
	checkLeft(t, "the externs", handed.Externs[:2], kept.Externs[:2], func(a, b string) bool { return a == b })
}

// What is handed out is new memory, and no two of its lists share any.
func TestAnswersAreNew(t *testing.T) {
	ss, _, _ := parse.Statements(text(".func f|exit|.func g|exit|exit|.func h|ja x|x:exit|.extern x|.map t hash 1 1 1|.extern y|.map u hash 1 1 1"))
	first, _, _ := Make(ss)
	second, _, _ := Make(ss)
	want := copyOf(first)
	for _, f := range first.Funcs {
		_ = append(f.Body, ja(7), ja(7), ja(7))
	}
	_ = append(first.Funcs, function("spoilt"))
	_ = append(first.Tables, hash("spoilt", 1, 1, 1))
	_ = append(first.Externs, "spoilt")
	if !same(first, want) || !same(second, want) {
		t.Errorf("R4: lists of one answer share memory: %s", short(first))
	}
	first.Funcs[1].Body[0], first.Tables[0].Name, first.Externs[0] = ja(9), "spoilt", "spoilt"
	first.Funcs[0].Name = "spoilt"
	if !same(second, want) || !sameFunc(first.Funcs[2], want.Funcs[2]) || first.Funcs[1].Body[1] != exit() {
		t.Errorf("R4: answers share memory: %s, %s", short(first), short(second))
	}
	if third, _, _ := Make(ss); !same(third, want) {
		t.Errorf("R4: what was handed out changes what is: %s", short(third))
	}
}

// Texts as long as may be, in which each thing names another one far away.
func TestLongTexts(t *testing.T) {
	var b strings.Builder
	count := 0
	for ; b.Len() < api.MaxText-100; count++ {
		fmt.Fprintf(&b, ".func f%d\na:call f%d\njne r1,r2,a\n", count, count/2)
	}
	m, at, e := Parse([]byte(b.String()))
	if e != api.OK || len(m.Funcs) != count || m.Funcs[count-1].Body[0] != call(fmt.Sprint("f", (count-1)/2)) || m.Funcs[count-1].Body[1].Branch != 0 || Check(m) != api.OK {
		t.Errorf("P7.2: Parse of %d functions = %d, %d, %d", count, len(m.Funcs), at, e)
	}
}

func TestLongFunction(t *testing.T) {
	const count = 600000
	var b strings.Builder
	b.WriteString(".func f\n")
	for k := range count {
		fmt.Fprintf(&b, "x%d:ja x%d\n", k, count-1-k)
	}
	m, at, e := Parse([]byte(b.String()))
	if e != api.OK || len(m.Funcs) != 1 || len(m.Funcs[0].Body) != count || cap(m.Funcs[0].Body) != count {
		t.Fatalf("P7.2: Parse of %d labels = %d, %d", count, at, e)
	}
	for k, s := range m.Funcs[0].Body {
		if s != ja(count-1-k) {
			t.Fatalf("P7.1: step %d is %+v", k, s)
		}
	}
	checkBack(t, m)
}

// A module may have a text that is too long to be read again: Print knows no bound.
func TestLongPrint(t *testing.T) {
	step := api.Step{Insn: api.Insn{Op: 0x16, Dst: 10, Imm: math.MinInt32}}
	const row = "\tjeq32 r10, -2147483648, L0\n"
	count := api.MaxText / len(row)
	m := funcs(function("f", slices.Repeat([]api.Step{step}, count+1)...))
	const head = ".func f\nL0:\n"
	printed, e := Print(m)
	if e != api.OK || len(printed) != len(head)+len(row)*(count+1) || printed[:len(head)] != head || strings.Count(printed, row) != count+1 {
		t.Errorf("P7.4: Print of %d steps = %d bytes, %d", count+1, len(printed), e)
	}
	checkRefused(t, printed, 0, api.ErrLexLong)
	m.Funcs[0].Body = m.Funcs[0].Body[:count-1]
	checkBack(t, m)
}
