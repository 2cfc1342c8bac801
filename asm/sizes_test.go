package asm

import (
	"math"
	"math/rand"
	"slices"
	"strconv"
	"strings"
	"testing"

	"spindle/api"
	"spindle/line"
	"spindle/module"
)

// branchWords gives a line for each opcode that branches, with `x` as its label.
func branchWords() []string {
	words := []string{"ja x"}
	for _, word := range strings.Fields("jeq jgt jge jset jne jsgt jsge jlt jle jslt jsle") {
		for _, width := range []string{"", "32"} {
			words = append(words, word+width+" r1, r2, x", word+width+" r1, -5, x")
		}
	}
	return words
}

// TestBranchBounds: each opcode, both ways, at the bounds and one behind them, over narrow and wide instructions.
func TestBranchBounds(t *testing.T) {
	t.Parallel()
	words := branchWords()
	if len(words) != 45 {
		t.Fatalf("%d branches, want 45", len(words))
	}
	for _, word := range words {
		i, _, e := line.Parse(word)
		if e != api.OK {
			t.Fatalf("%q: %d", word, e)
		}
		branch := func(to int) api.Step { return api.Step{Insn: i, Branch: to} }
		for _, row := range []struct {
			what     string
			body     []api.Step
			at       int
			distance int
		}{
			{"forward over exits", body(steps(branch(32768), 1), steps(exit(), 32768)), 0, 32767},
			{"forward over wide ones and an exit", body(steps(branch(16385), 1), steps(lddw(), 16383), steps(exit(), 2)), 0, 32767},
			{"forward, too far", body(steps(branch(32769), 1), steps(exit(), 32769)), 0, 32768},
			{"forward over wide ones, too far", body(steps(branch(16385), 1), steps(lddw(), 16384), steps(exit(), 1)), 0, 32768},
			{"back over exits", body(steps(exit(), 32767), steps(branch(0), 1)), 32767, -32768},
			{"back over wide ones and an exit", body(steps(lddw(), 16383), steps(exit(), 1), steps(branch(0), 1)), 16384, -32768},
			{"back, too far", body(steps(exit(), 32768), steps(branch(0), 1)), 32768, -32769},
			{"back over wide ones, too far", body(steps(lddw(), 16384), steps(branch(0), 1)), 16384, -32769},
			{"to itself", body(steps(exit(), 1), steps(branch(1), 1)), 1, -1},
			{"to the next", body(steps(branch(1), 1), steps(exit(), 1)), 0, 0},
			{"to the next, behind a wide one", body(steps(lddw(), 1), steps(branch(2), 1), steps(lddw(), 1)), 1, 0},
		} {
			o, at, e := Object(api.Module{Funcs: []api.Func{function("f", row.body...)}})
			if row.distance < -32768 || row.distance > 32767 {
				if at != row.at || e != api.ErrAsmBranch || !equal(o, api.Object{}) {
					t.Errorf("P13.1: %q %s = %s, %d, %d, want %d, ErrAsmBranch", word, row.what, short(o), at, e, row.at)
				}
				continue
			}
			want := i
			want.Off = row.distance
			if at != 0 || e != api.OK || o.Text[row.at] != want {
				t.Errorf("P13.1: %q %s: %s, %d, %d, want %v there", word, row.what, short(o), at, e, want)
			}
		}
	}
}

// TestDistances: a branch from each step to each step of a function, behind another one, with wide ones in all places.
func TestDistances(t *testing.T) {
	t.Parallel()
	for wides := range 1 << 5 {
		var filled []api.Step
		for k := range 5 {
			s := exit()
			if wides>>k&1 == 1 {
				s = lddw()
			}
			filled = append(filled, s)
		}
		for from := range filled {
			for to := range filled {
				for _, branch := range []api.Step{ja(to), ja32(to)} {
					b := slices.Clone(filled)
					b[from] = branch
					checkModule(t, api.Module{Funcs: []api.Func{function("f", b...)}})
					checkModule(t, api.Module{Funcs: []api.Func{function("e", lddw(), exit()), function("f", b...), function("g", ja(0))}})
				}
			}
		}
	}
}

// TestFarJump32: ja32 leads as far as an object is long.
func TestFarJump32(t *testing.T) {
	t.Parallel()
	for _, row := range []struct {
		body []api.Step
		at   int
		want int
	}{
		{body(steps(ja32(65535), 1), steps(exit(), 65535)), 0, 65534},
		{body(steps(exit(), 65535), steps(ja32(0), 1)), 65535, -65536},
		{body(steps(ja32(32767), 1), steps(lddw(), 32766), steps(exit(), 3)), 0, 65532},
	} {
		o, at, e := Object(api.Module{Funcs: []api.Func{function("f", row.body...)}})
		if at != 0 || e != api.OK || o.Text[row.at] != (api.Insn{Op: 0x06, Imm: row.want}) {
			t.Errorf("P13.1: ja32 = %s, %d, %d, want Imm %d", short(o), at, e, row.want)
		}
	}
	far := body(steps(ja32(70000), 1), steps(exit(), 70001))
	checkStep(t, "ja32 behind the bound", api.Module{Funcs: []api.Func{function("f", far...)}}, 65536, api.ErrAsmLong)
	checkLine(t, ".func f|ja32 x|"+lines("exit", 65534)+"x: exit", 0, api.OK)
	checkLine(t, ".func f|ja32 x|"+lines("exit", 65535)+"x: exit", 65538, api.ErrAsmLong)
}

// TestSlots: as many as may be and one more, of narrow and wide ones, in one function and in many.
func TestSlots(t *testing.T) {
	t.Parallel()
	one := func(parts ...[]api.Step) api.Module {
		return api.Module{Funcs: []api.Func{function("f", body(parts...)...)}}
	}
	two := func(a, b []api.Step) api.Module {
		return api.Module{Funcs: []api.Func{function("f", a...), function("g", b...)}}
	}
	tables := func(m api.Module) api.Module {
		m.Tables = []api.TableDef{array("t")}
		return m
	}
	for _, row := range []struct {
		m    api.Module
		at   int
		want api.Errno
	}{
		{one(steps(exit(), 65536)), 0, api.OK},
		{one(steps(exit(), 65537)), 65536, api.ErrAsmLong},
		{one(steps(lddw(), 32768)), 0, api.OK},
		{one(steps(lddw(), 32768), steps(exit(), 1)), 32768, api.ErrAsmLong},
		{one(steps(lddw(), 32769)), 32768, api.ErrAsmLong},
		{tables(one(steps(ldmap("t"), 32768))), 0, api.OK},
		{tables(one(steps(ldmap("t"), 32769))), 32768, api.ErrAsmLong},
		{one(steps(exit(), 1), steps(lddw(), 32768)), 32768, api.ErrAsmLong},
		{one(steps(exit(), 65535), steps(lddw(), 1)), 65535, api.ErrAsmLong},
		{one(steps(exit(), 65534), steps(lddw(), 1)), 0, api.OK},
		{two(steps(exit(), 65535), steps(exit(), 1)), 0, api.OK},
		{two(steps(exit(), 65535), steps(exit(), 2)), 65536, api.ErrAsmLong},
		{two(steps(exit(), 65536), steps(exit(), 1)), 65536, api.ErrAsmLong},
		{two(steps(exit(), 1), steps(lddw(), 32768)), 32768, api.ErrAsmLong},
		{two(steps(exit(), 70000), steps(exit(), 1)), 65536, api.ErrAsmLong},
	} {
		checkStep(t, "slots", row.m, row.at, row.want)
	}
	checkLine(t, ".func f|"+lines("exit", 65536)+".func g|exit", 65539, api.ErrAsmLong)
	checkLine(t, ".func f|"+lines("lddw r1, 5", 32767)+"|;|x: y:|.extern e|.map t array 4 1 1|.global f|ldmap r1, t", 0, api.OK)
	checkLine(t, ".func f|"+lines("lddw r1, 5", 32767)+"|;|x: y:|.extern e|.map t array 4 1 1|.global f|ldmap r1, t|exit", 32776, api.ErrAsmLong)
	checkLine(t, ".func f|"+lines("exit", 65535)+"call g|.extern g", 0, api.OK)
	checkLine(t, lines("", 70000)+".func f|"+lines("exit", 65536), 0, api.OK)
}

func numbered(what string, n int) []string {
	list := make([]string, n)
	for k := range list {
		list[k] = what + strconv.Itoa(k)
	}
	return list
}

// moduleOf gives a module with so many of each.
func moduleOf(funcs, tables, externs int) api.Module {
	m := api.Module{Externs: numbered("x", externs)}
	for _, name := range numbered("f", funcs) {
		m.Funcs = append(m.Funcs, function(name, exit()))
	}
	for _, name := range numbered("t", tables) {
		m.Tables = append(m.Tables, array(name))
	}
	return m
}

// TestMany: as many as may be, and more; the first of the lists is told.
func TestMany(t *testing.T) {
	for _, row := range []struct {
		m    api.Module
		at   int
		want api.Errno
	}{
		{moduleOf(1024, 1024, 1024), 0, api.OK},
		{moduleOf(1025, 0, 0), 0, api.ErrAsmMany},
		{moduleOf(0, 1025, 0), 1, api.ErrAsmMany},
		{moduleOf(0, 0, 1025), 2, api.ErrAsmMany},
		{moduleOf(1025, 1025, 1025), 0, api.ErrAsmMany},
		{moduleOf(1025, 0, 1025), 0, api.ErrAsmMany},
		{moduleOf(1024, 1025, 1025), 1, api.ErrAsmMany},
		{moduleOf(1024, 1024, 1025), 2, api.ErrAsmMany},
		{moduleOf(1024, 5000, 1024), 1, api.ErrAsmMany},
	} {
		checkStep(t, "counts", row.m, row.at, row.want)
	}
	long := moduleOf(1, 0, 1025)
	long.Funcs[0].Body = steps(exit(), 65537)
	checkStep(t, "counts ahead of slots", long, 2, api.ErrAsmMany)
	long.Funcs[0].Body = body(steps(ja(40000), 1), steps(exit(), 40000))
	checkStep(t, "counts ahead of branches", long, 2, api.ErrAsmMany)
	long.Externs = long.Externs[1:]
	checkStep(t, "the branch alone", long, 0, api.ErrAsmBranch)
}

// TestManyLines: the line in which one too many stands, whatever the order of the directives.
func TestManyLines(t *testing.T) {
	t.Parallel()
	lists := []string{many(".func f%d|exit", 1024), many(".map t%d hash 1 1 1", 1024), many(".extern x%d", 1024)}
	sizes := []int{2048, 1024, 1024}
	more := []string{".func g|exit|", ".map g hash 1 1 1|", ".extern g|"}
	for _, order := range [][]int{{0, 1, 2}, {0, 2, 1}, {1, 0, 2}, {1, 2, 0}, {2, 0, 1}, {2, 1, 0}} {
		a, b, c := order[0], order[1], order[2]
		checkLine(t, lists[a]+lists[b]+lists[c], 0, api.OK)
		for k := range more {
			checkLine(t, lists[a]+lists[b]+lists[c]+more[k], 4097, api.ErrAsmMany)
		}
		behind := sizes[a] + sizes[b] + 1
		checkLine(t, lists[a]+lists[b]+more[a]+lists[c], behind, api.ErrAsmMany)
		checkLine(t, lists[a]+lists[b]+more[b]+lists[c], behind, api.ErrAsmMany)
		checkLine(t, lists[a]+lists[b]+more[c]+lists[c], behind+sizes[c], api.ErrAsmMany)
		checkLine(t, lists[a]+strings.ReplaceAll(more[b], " g", " h")+lists[b]+more[a]+lists[c], behind, api.ErrAsmMany)
	}
}

// TestFirstLine: the first line decides, of one instruction the branch.
func TestFirstLine(t *testing.T) {
	t.Parallel()
	exits := func(n int) string { return lines("exit", n) }
	externs := many(".extern x%d", 1024)
	for _, row := range []struct {
		s    string
		at   int
		want api.Errno
	}{
		{".func f|ja x|" + exits(40000) + "x: exit|" + exits(40000), 2, api.ErrAsmBranch},
		{".func f|x: " + exits(65536) + "ja x", 65538, api.ErrAsmBranch},
		{".func f|x: " + exits(65537) + "ja x", 65538, api.ErrAsmLong},
		{".func f|x: " + exits(65535) + "ja x", 65537, api.ErrAsmBranch},
		{".func f|x: " + exits(65536) + "ja32 x", 65538, api.ErrAsmLong},
		{externs + ".func f|" + exits(65537) + ".extern y", 66562, api.ErrAsmLong},
		{externs + ".func f|" + exits(65536) + ".extern y|exit", 66562, api.ErrAsmMany},
		{externs + ".func f|.extern y|ja x|" + exits(40000) + "x: exit", 1026, api.ErrAsmMany},
		{externs + ".func f|ja x|.extern y|" + exits(40000) + "x: exit", 1026, api.ErrAsmBranch},
		{".func f|jeq r1, 1, x|ja x|" + exits(32767) + "x: exit", 2, api.ErrAsmBranch},
		{".func f|exit|ja32 x|ja x|" + exits(32768) + "x: exit", 4, api.ErrAsmBranch},
		{".func e|" + exits(60000) + ".func f|ja x|" + exits(5000) + "x: exit", 0, api.OK},
		{".func e|" + exits(60000) + ".func f|ja x|" + exits(33000) + "x: exit", 60003, api.ErrAsmBranch},
	} {
		checkLine(t, row.s, row.at, row.want)
	}
}

// TestFirstStep: of a module too.
func TestFirstStep(t *testing.T) {
	t.Parallel()
	two := func(a, b []api.Step) api.Module {
		return api.Module{Funcs: []api.Func{function("f", a...), function("g", b...)}}
	}
	for _, row := range []struct {
		what string
		m    api.Module
		at   int
		want api.Errno
	}{
		{"both at one step", two(steps(exit(), 65530), body(steps(exit(), 6), steps(ja(0), 1))), 65536, api.ErrAsmLong},
		{"both at one step", two(steps(exit(), 5), body(steps(exit(), 65531), steps(ja(0), 1))), 65536, api.ErrAsmBranch},
		{"long ahead", two(steps(exit(), 5), body(steps(exit(), 65532), steps(ja(0), 1))), 65536, api.ErrAsmLong},
		{"the branch ahead", two(steps(exit(), 5), body(steps(ja(70000), 1), steps(exit(), 70000))), 5, api.ErrAsmBranch},
		{"the branch at the last place", two(steps(exit(), 5), body(steps(exit(), 65530), steps(ja(0), 1))), 65535, api.ErrAsmBranch},
		{"two branches", two(body(steps(exit(), 3), steps(ja(32772), 1), steps(exit(), 32769)), body(steps(ja(32769), 1), steps(exit(), 32769))), 3, api.ErrAsmBranch},
		{"a branch of the second", two(body(steps(exit(), 3), steps(ja(32771), 1), steps(exit(), 32769)), body(steps(ja(32769), 1), steps(exit(), 32769))), 32773, api.ErrAsmBranch},
	} {
		checkStep(t, row.what, row.m, row.at, row.want)
	}
}

// TestPasses: a fault of an earlier pass decides, wherever it stands.
func TestPasses(t *testing.T) {
	t.Parallel()
	far := ".func f|ja x|" + lines("exit", 40000)
	for _, row := range []struct {
		behind string
		want   api.Errno
	}{
		{"x: ?", api.ErrLexByte},
		{"x: 08", api.ErrLexNumber},
		{"x: " + strings.Repeat("a", 65), api.ErrLexName},
		{strings.Repeat(" ", 1025), api.ErrLexLine},
		{"x: foo", api.ErrParseToken},
		{"x: .extern a b", api.ErrParseEnd},
		{"x: mov r1", api.ErrLineOperand},
		{"x: mov r1, 4294967296", api.ErrLineNumber},
		{"x: .func f", api.ErrModuleTwice},
		{"x: .map t array 5 1 1", api.ErrModuleTable},
		{"x:", api.ErrModuleLabel},
		{"x: call g", api.ErrModuleName},
		{"x: ldmap r1, f", api.ErrModuleName},
		{"x: .global g|exit", api.ErrModuleGlobal},
	} {
		checkLine(t, far+row.behind, 40003, row.want)
	}
	checkLine(t, far+"x: exit|.func g", 40004, api.ErrModuleEmpty)
	checkLine(t, "exit|"+far+"x: exit", 1, api.ErrModuleOutside)
	checkLine(t, far+"x: exit", 2, api.ErrAsmBranch)
	checkLine(t, ".func f|"+lines("exit", 65537)+"call g", 65539, api.ErrModuleName)
	checkLine(t, many(".extern x%d", 2000)+".extern x7", 2001, api.ErrModuleTwice)
	checkLine(t, many(".extern x%d", 2000)+"?", 2001, api.ErrLexByte)
	checkLine(t, strings.Repeat(" ", api.MaxText+1), 0, api.ErrLexLong)
}

// TestCheckFirst: of a module that may not be Object's error is module.Check's, whatever its sizes.
func TestCheckFirst(t *testing.T) {
	t.Parallel()
	far := body(steps(ja(40000), 1), steps(exit(), 70000))
	for _, row := range []struct {
		m    api.Module
		want api.Errno
	}{
		{api.Module{Externs: []string{"1"}}, api.ErrModuleName},
		{api.Module{Externs: []string{"a", "a"}}, api.ErrModuleTwice},
		{api.Module{Tables: []api.TableDef{{Name: "t"}}}, api.ErrModuleTable},
		{api.Module{Funcs: []api.Func{function("f")}}, api.ErrModuleEmpty},
		{api.Module{Funcs: []api.Func{function("f", plain(api.Insn{}))}}, api.ErrIsaOpcode},
		{api.Module{Funcs: []api.Func{function("f", plain(api.Insn{Op: 0x95, Imm: 1}))}}, api.ErrIsaField},
		{api.Module{Funcs: []api.Func{function("f", ja(1))}}, api.ErrModuleLabel},
		{api.Module{Funcs: []api.Func{function("f", ja(-1))}}, api.ErrModuleLabel},
		{api.Module{Funcs: []api.Func{function("f", ja(math.MaxInt))}}, api.ErrModuleLabel},
		{api.Module{Funcs: []api.Func{function("f", ja(math.MinInt))}}, api.ErrModuleLabel},
		{api.Module{Funcs: []api.Func{function("f", api.Step{Insn: api.Insn{Op: 0x95}})}}, api.ErrModuleLabel},
		{api.Module{Funcs: []api.Func{function("f", api.Step{Insn: api.Insn{Op: 0x05, Off: 1}})}}, api.ErrModuleLabel},
		{api.Module{Funcs: []api.Func{function("f", call("g"))}}, api.ErrModuleName},
		{api.Module{Funcs: []api.Func{function("f", ldmap("f"))}}, api.ErrModuleName},
		{api.Module{Funcs: []api.Func{function("f", far...), function("g", call("h"))}}, api.ErrModuleName},
		{api.Module{Funcs: []api.Func{function("f", far...)}, Externs: append(numbered("x", 1025), "")}, api.ErrModuleName},
	} {
		checkStep(t, "Check's", row.m, 0, row.want)
	}
	empty := moduleOf(1025, 1025, 1025)
	empty.Funcs[1024].Body = nil
	checkStep(t, "Check's ahead of counts", empty, 0, api.ErrModuleEmpty)
}

// someLongModule gives a module of chance whose branches and slots are about their bounds.
func someLongModule(r *rand.Rand) api.Module {
	near := func(n int) int { return n - 2 + r.Intn(5) }
	var m api.Module
	for k := range 1 + r.Intn(3) {
		var b []api.Step
		for range 1 + r.Intn(4) {
			filler := []api.Step{exit(), lddw()}[r.Intn(2)]
			b = append(b, steps(filler, max(0, near([]int{2, 2, 5000, 16384, 20000, 32767}[r.Intn(6)])))...)
			b = append(b, []api.Step{ja(0), ja32(0), exit()}[r.Intn(3)])
		}
		for j, s := range b {
			if s.Branch == 0 {
				b[j].Branch = []int{r.Intn(len(b)), 0, len(b) - 1, min(len(b)-1, near(j+32768)), max(0, near(j-32768))}[r.Intn(5)]
				b[j].Branch = max(0, min(len(b)-1, b[j].Branch))
			}
		}
		m.Funcs = append(m.Funcs, function("f"+strconv.Itoa(k), b...))
	}
	return m
}

func TestSomeLongModules(t *testing.T) {
	t.Parallel()
	r := rand.New(rand.NewSource(131))
	told := map[api.Errno]int{}
	for n := range 100 {
		m := someLongModule(r)
		told[checkModule(t, m)]++
		if n%20 == 0 {
			printed, _ := module.Print(m)
			checkText(t, []byte(printed))
		}
	}
	if told[api.OK] < 10 || told[api.ErrAsmBranch] < 10 || told[api.ErrAsmLong] < 10 {
		t.Errorf("told %v", told)
	}
}

// TestLong: texts of sixteen megabytes.
func TestLong(t *testing.T) {
	t.Parallel()
	fill := func(head, line, tail string) []byte {
		count := (api.MaxText - len(head) - len(tail)) / len(line)
		return text(head + strings.Repeat(line, count) + tail)
	}
	for _, row := range []struct {
		what string
		s    []byte
		at   int
		want api.Errno
	}{
		{"branches to the end", fill(".func f|", "ja32 x|", "x: exit"), 65538, api.ErrAsmLong},
		{"remarks", fill(".func f|exit|", strings.Repeat(";", 1000)+"|", ".global f"), 0, api.OK},
		{"a branch over empty lines", fill(".func f|ja x|", "|", "x: exit"), 0, api.OK},
		{"functions", text(many(".func f%d|exit", 700000)), 2049, api.ErrAsmMany},
		{"labels", text(".func f|" + many("l%d:", 1500000) + "ja l0"), 0, api.OK},
	} {
		if _, at, e := Assemble(row.s); at != row.at || e != row.want {
			t.Errorf("P13.2: %s: %d, %d, want %d, %d", row.what, at, e, row.at, row.want)
		}
	}
}

// TestLongFunction: as many branches as there are slots, each as far off as may be.
func TestLongFunction(t *testing.T) {
	t.Parallel()
	const half = 32768
	b := steps(ja(0), 2*half)
	for k := range half {
		b[k].Branch, b[half+k].Branch = half+k, k+1
	}
	o, at, e := Object(api.Module{Funcs: []api.Func{function("f", b...)}})
	if at != 0 || e != api.OK || len(o.Text) != len(b) {
		t.Fatalf("P13.1: a long function of branches: %s, %d, %d", short(o), at, e)
	}
	for k := range half {
		if forward, back := o.Text[k].Off, o.Text[half+k].Off; forward != half-1 || back != -half {
			t.Fatalf("P13.1: branches %d and %d of a long function have Off %d and %d", k, half+k, forward, back)
		}
	}
}
