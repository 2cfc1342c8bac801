package parse

import (
	"fmt"
	"math"
	"math/rand"
	"slices"
	"strings"
	"testing"

	"spindle/api"
	"spindle/lex"
	"spindle/line"
)

const maxText = 16777216

func label(name string) api.Statement  { return api.Statement{Kind: api.StmtLabel, Name: name} }
func function(n string) api.Statement  { return api.Statement{Kind: api.StmtFunc, Name: n} }
func global(name string) api.Statement { return api.Statement{Kind: api.StmtGlobal, Name: name} }
func extern(name string) api.Statement { return api.Statement{Kind: api.StmtExtern, Name: name} }
func insn(i api.Insn, target string) api.Statement {
	return api.Statement{Kind: api.StmtInsn, Insn: i, Target: target}
}
func exit() api.Statement { return insn(api.Insn{Op: 0x95}, "") }
func table(name, kind string, key, value, entries int) api.Statement {
	return api.Statement{Kind: api.StmtMap, Name: name, Words: []string{kind}, Numbers: []int{key, value, entries}}
}

// on gives a statement with the number of its line.
func on(line int, s api.Statement) api.Statement {
	s.Line = line
	return s
}

func list(ss ...api.Statement) []api.Statement { return ss }

// short gives the beginning of what may be very long, for messages.
func short(v any) string {
	return fmt.Sprintf("%.300s", fmt.Sprintf("%+v", v))
}

func checkSays(t *testing.T, text string, want ...api.Statement) {
	t.Helper()
	ss, at, e := Statements([]byte(text))
	if !slices.EqualFunc(ss, want, same) || at != 0 || e != api.OK {
		t.Errorf("P6.1: Statements(%.80q) = %s, %d, %d, want %s, 0, OK", text, short(ss), at, e, short(want))
	}
}

func checkRefused(t *testing.T, text string, wantAt int, want api.Errno) {
	t.Helper()
	if ss, at, e := Statements([]byte(text)); len(ss) > 0 || at != wantAt || e != want {
		t.Errorf("P6.1: Statements(%.80q) = %d statements, %d, %d, want none, %d, %d", text, len(ss), at, e, wantAt, want)
	}
}

// checkText holds Statements of a text against its reading by the chapter's words, and Print of the answer.
func checkText(t *testing.T, text string) {
	t.Helper()
	want, wantAt, wantE := readStatements(text)
	ss, at, e := Statements([]byte(text))
	if !slices.EqualFunc(ss, want, same) || at != wantAt || e != wantE {
		t.Errorf("P6.1: Statements(%.80q) = %s, %d, %d, want %s, %d, %d", text, short(ss), at, e, short(want), wantAt, wantE)
		return
	}
	if e == api.OK {
		checkCount(t, text, len(ss))
		checkBack(t, ss)
	}
}

// checkCount: the list is made in its size, so that it need not grow.
func checkCount(t *testing.T, text string, want int) {
	t.Helper()
	ts, _, _ := lex.Tokens([]byte(text))
	if count := statementCount(ts); count != want {
		t.Errorf("room is made for %d statements of %.80q, there are %d", count, text, want)
	}
}

// checkBack: Print takes what Statements gave, and Statements of its text is the list again.
func checkBack(t *testing.T, ss []api.Statement) {
	t.Helper()
	text, e := Print(ss)
	back, at, e2 := Statements([]byte(text))
	if e != api.OK || e2 != api.OK || at != 0 || !slices.EqualFunc(back, numbered(ss), same) {
		t.Errorf("P6.3: Print(%s) = %.80q, %d; Statements of it = %s, %d, %d", short(ss), text, e, short(back), at, e2)
	}
}

// numbered gives statements with the numbers of the lines that Print writes.
func numbered(ss []api.Statement) []api.Statement {
	out := slices.Clone(ss)
	for k := range out {
		out[k].Line = k + 1
	}
	return out
}

func checkPrint(t *testing.T, want string, wantE api.Errno, ss ...api.Statement) {
	t.Helper()
	if text, e := Print(ss); text != want || e != wantE {
		t.Errorf("P6.2: Print(%s) = %.80q, %d, want %.80q, %d", short(ss), text, e, want, wantE)
	}
}

// checkList holds Print of a list against its reading by the chapter's words, and Statements of the text that it gives.
func checkList(t *testing.T, ss ...api.Statement) {
	t.Helper()
	want, wantE := readPrint(ss)
	checkPrint(t, want, wantE, ss...)
	if wantE == api.OK {
		checkBack(t, ss)
	}
}

func TestStatementsExamples(t *testing.T) {
	checkSays(t, "")
	checkSays(t, "\n;x\n")
	checkSays(t, "a: b: exit", on(1, label("a")), on(1, label("b")), on(1, exit()))
	checkSays(t, ".func f\nmov:mov r1 , 0x10", on(1, function("f")), on(2, label("mov")), on(2, insn(api.Insn{Op: 0xb7, Dst: 1, Imm: 16}, "")))
	checkSays(t, ".map m hash 8 16 0", on(1, table("m", "hash", 8, 16, 0)))
	for _, text := range []string{".map m tree 1 1 1", ".map m array 4 8", ".map m array 4 8 2147483648", ".fun f", "movq r1", "5"} {
		checkRefused(t, text, 1, api.ErrParseToken)
	}
	checkRefused(t, ".func f g", 1, api.ErrParseEnd)
	checkRefused(t, ".global a: exit", 1, api.ErrParseEnd)
	checkRefused(t, "exit\n.extern x 1", 2, api.ErrParseEnd)
	checkRefused(t, "mov r1", 1, api.ErrLineOperand)
	checkRefused(t, "ja x y", 1, api.ErrLineOperand)
	checkRefused(t, "exit\nmov r1, 4294967296", 2, api.ErrLineNumber)
	checkRefused(t, "foo ?", 1, api.ErrLexByte)
	checkRefused(t, "foo\n?", 1, api.ErrParseToken)
}

func TestPrintExamples(t *testing.T) {
	checkPrint(t, "a:\nexit\n", api.OK, label("a"), exit())
	checkPrint(t, "", api.ErrParseToken, function("1a"))
	checkPrint(t, "", api.ErrIsaOpcode, insn(api.Insn{}, ""))
	checkPrint(t, "", api.ErrParseToken, api.Statement{Kind: 7})
	checkPrint(t, "", api.ErrParseToken, api.Statement{Kind: 7, Name: "a"})
}

func TestDirectives(t *testing.T) {
	checkSays(t, ".func f", on(1, function("f")))
	checkSays(t, ".func a.func", on(1, function("a.func")))
	checkSays(t, ".global f", on(1, global("f")))
	checkSays(t, ".extern f", on(1, extern("f")))
	checkSays(t, ".map f array 4 8 1", on(1, table("f", "array", 4, 8, 1)))
	checkSays(t, ".map f hash 0 2147483647 0x7fffffff", on(1, table("f", "hash", 0, math.MaxInt32, math.MaxInt32)))
	checkSays(t, "\n\n a :.func f ; g\n\t.map array hash 1 2 3#\n.extern exit\r\n.global r1",
		on(3, label("a")), on(3, function("f")), on(4, table("array", "hash", 1, 2, 3)), on(5, extern("exit")), on(6, global("r1")))
	for _, text := range []string{
		".Func f", ".funcs f", ".func. f", ".fun", ".a", ".array", ".maps m hash 1 1 1", ".label a",
		".func", ".global", ".extern", ".func 5", ".func .f", ".func :", ".func , f", ".extern -", ".global 0x10 a",
		".map", ".map m", ".map m hash", ".map m hash 1", ".map m hash 1 1", ".map 5 hash 1 1 1", ".map .m hash 1 1 1", ".map : hash 1 1 1",
		".map m Hash 1 1 1", ".map m hashes 1 1 1", ".map m 1 1 1", ".map m .hash 1 1 1", ".map m arrayhash 1 1 1", ".map m hash a 1 1", ".map m hash 1 a 1", ".map m hash 1 1 a",
		".map m hash -1 1 1", ".map m hash 1, 1 1", ".map m hash 1 1 +1", ".map m hash : 1 1 1", ".map m : hash 1 1 1", ".map m hash 2147483648 1 1", ".map m hash 1 0x80000000 1",
		".map m hash 1 1 4294967296", ".map m hash 1 1 18446744073709551615", ".map m hash 18446744073709551615 1 1 1", ".map m tree 1 1 1 1", ".map m hash 1 2147483648 1 1 1",
	} {
		for n, ahead := range []string{"", "\n", "a: b:\n\n"} {
			checkRefused(t, ahead+text, n+1, api.ErrParseToken)
			checkRefused(t, ahead+"x:"+text+"\n.func f g\n", n+1, api.ErrParseToken)
		}
	}
	for _, text := range []string{".func f 1", ".func f f", ".func f .func", ".func f:", ".global f ,", ".extern f -", ".func f .func g", ".map m hash 1 1 1 1", ".map m array 1 1 1 exit", ".map m hash 1 1 1,", ".map m hash 1 1 1 .map", ".extern x 2147483648"} {
		checkRefused(t, text, 1, api.ErrParseEnd)
		checkRefused(t, "\na: "+text+" 5\n5", 2, api.ErrParseEnd)
	}
}

func TestLabels(t *testing.T) {
	checkSays(t, "a:", on(1, label("a")))
	checkSays(t, "a :\n\n\tb\t:\r\n", on(1, label("a")), on(3, label("b")))
	checkSays(t, "a:a:a:exit", on(1, label("a")), on(1, label("a")), on(1, label("a")), on(1, exit()))
	checkSays(t, "exit: mov: r1: array: func:", on(1, label("exit")), on(1, label("mov")), on(1, label("r1")), on(1, label("array")), on(1, label("func")))
	checkSays(t, "ja :", on(1, label("ja")))
	checkSays(t, "exit:exit", on(1, label("exit")), on(1, exit()))
	checkSays(t, "call:call exit", on(1, label("call")), on(1, insn(api.Insn{Op: 0x85, Src: 1, Imm: -1}, "exit")))
	for _, text := range []string{":", "a::", "a: :", "a:: exit", ":a", "a b:", "5:", "a: 5:", ".a:", "a,", "a", "a: b", "a: exits", "[", "]", "+", "-", ",", ",exit", "- exit", "Exit", "EXIT", "movq: movq"} {
		checkRefused(t, text, 1, api.ErrParseToken)
		checkRefused(t, "exit\n\n"+text, 3, api.ErrParseToken)
	}
	for _, text := range []string{"exit a:", "ja a:", "ja a: exit", "exit exit", "exit .func", "mov r1, 1:", "exit 5", "call .f", "mov r1, .r2"} {
		checkRefused(t, text, 1, api.ErrLineOperand)
	}
}

func TestInstructions(t *testing.T) {
	checkSays(t, "mov r1, 0xFFFFFFFF", on(1, insn(api.Insn{Op: 0xb7, Dst: 1, Imm: -1}, "")))
	checkSays(t, "mov r1,- 0x80000000", on(1, insn(api.Insn{Op: 0xb7, Dst: 1, Imm: math.MinInt32}, "")))
	checkSays(t, "lddw r1,0xFFFFFFFFFFFFFFFF", on(1, insn(api.Insn{Op: 0x18, Dst: 1, Imm: -1}, "")))
	checkSays(t, "lddw r1, -9223372036854775808", on(1, insn(api.Insn{Op: 0x18, Dst: 1, Imm: math.MinInt64}, "")))
	checkSays(t, "ldxw r1,[r2-0x8]", on(1, insn(api.Insn{Op: 0x61, Dst: 1, Src: 2, Off: -8}, "")))
	checkSays(t, "jeq\tr1\r,\tr2\r,\tx\r", on(1, insn(api.Insn{Op: 0x1d, Dst: 1, Src: 2}, "x")))
	checkSays(t, "ldmap r3, t", on(1, insn(api.Insn{Op: 0x18, Dst: 3, Src: 1}, "t")))
	checkSays(t, "ja r1", on(1, insn(api.Insn{Op: 0x05}, "r1")))
	checkRefused(t, "mov r1, 18446744073709551615", 1, api.ErrLineNumber)
	checkRefused(t, "ldxw r1, [r2+32768]", 1, api.ErrLineNumber)
	checkRefused(t, "lddw r1, -9223372036854775809", 1, api.ErrLineNumber)
	checkRefused(t, "mov r1, 4294967296 x", 1, api.ErrLineOperand)
	checkRefused(t, "mov r11, 1", 1, api.ErrLineOperand)
	checkRefused(t, "exit "+strings.Repeat(",", 1019), 1, api.ErrLineOperand)
	checkRefused(t, "exits "+strings.Repeat(",", 1018), 1, api.ErrParseToken)
	for _, word := range line.Words() {
		for _, operands := range []string{"", "r1", "r1, r2", "r1, 7", "r1, -7", "x", "7", "r1, x", "r1, r2, x", "r1, 7, x", "r1, [r2-8]", "[r1+8], r2", "[r1+0], 7", "r1, 4294967296"} {
			checkText(t, "\n"+word+" "+operands)
			checkText(t, word+":"+word+"\t"+strings.ReplaceAll(operands, ", ", ","))
		}
		checkText(t, strings.ToUpper(word))
		checkText(t, word+"x r1")
		checkText(t, word[:len(word)-1]+" r1")
	}
}

// All lines of few tokens, of each kind and of each word that matters.
func TestShortLines(t *testing.T) {
	tokens := []string{"a", "exit", "ja", "hash", ":", ",", ".func", ".map", ".x", "7", "2147483648"}
	var grow func(text string, more int)
	grow = func(text string, more int) {
		checkText(t, text)
		for k := 0; more > 0 && k < len(tokens); k++ {
			grow(text+" "+tokens[k], more-1)
		}
	}
	grow("", 4)
}

// Right lines with one or two tokens taken away, put in or exchanged.
func TestTurnedLines(t *testing.T) {
	tokens := []string{"a", "mov", "r1", "array", ":", ",", "-", "[", ".global", ".map", "0", "2147483647", "2147483648"}
	for _, text := range []string{".map m hash 1 2 3", "b : .map hash array 0 2147483647 5", ".func f", "b : .extern exit", "b : c : mov r1 , 5", "ldxw r1 , [ r2 - 8 ]", "jeq r1 , r2 , b", "call f"} {
		once := turned(strings.Fields(text), tokens)
		for _, line := range once {
			checkText(t, strings.Join(line, " "))
		}
		for _, line := range once[:min(len(once), 60)] {
			for _, twice := range turned(line, tokens) {
				checkText(t, strings.Join(twice, " "))
			}
		}
	}
}

// turned gives a line's tokens with each one taken away, and with each of the others in each place, in it or ahead of it.
func turned(line, tokens []string) [][]string {
	out := [][]string{line}
	for k := range line {
		out = append(out, slices.Delete(slices.Clone(line), k, k+1))
	}
	for k := range len(line) + 1 {
		for _, token := range tokens {
			out = append(out, slices.Insert(slices.Clone(line), k, token))
			if k < len(line) {
				out = append(out, slices.Replace(slices.Clone(line), k, k+1, token))
			}
		}
	}
	return out
}

// Each byte, in places where it matters.
func TestEveryByte(t *testing.T) {
	for c := range 256 {
		b := string([]byte{byte(c)})
		for _, form := range []string{"*", "a*", "a*:", "a:*", "*a:", "exit*", "*exit", "ex*it", ".func f*", ".func*f", ".*func f", ".func *", "mov r1*5", "mov r1,*5", "exit\n*\nexit", "foo\n*", "*\nfoo", ".map m hash 1*2 3", "exit;*", "foo;*"} {
			checkText(t, strings.ReplaceAll(form, "*", b))
		}
	}
}

// Lines that each have something wrong, and what.
var wrongLines = map[string]api.Errno{
	"?": api.ErrLexByte, "1a": api.ErrLexNumber, strings.Repeat("a", 65): api.ErrLexName, ";" + strings.Repeat(" ", 1024): api.ErrLexLine,
	"foo": api.ErrParseToken, ".func 1": api.ErrParseToken, ".func f g": api.ErrParseEnd, "mov r1": api.ErrLineOperand, "mov r1, 4294967296": api.ErrLineNumber,
}

// The first line in which something is wrong decides, and of one line layer 5.
func TestFirstFault(t *testing.T) {
	for first, e := range wrongLines {
		for second := range wrongLines {
			checkRefused(t, first+"\n"+second, 1, e)
			checkRefused(t, "a: exit\n\n"+first+"\n"+second+"\n", 3, e)
			checkRefused(t, ";?\r\n#1a\n\n"+first+"\nexit\n\n"+second, 4, e)
		}
	}
	for _, first := range []string{"foo", ".func 1", ".func f g", "mov r1", "mov r1, 4294967296", ":", "exit exit", ".fun f"} {
		checkRefused(t, first+" ?", 1, api.ErrLexByte)
		checkRefused(t, "exit\n"+first+" 1a ?", 2, api.ErrLexNumber)
		checkRefused(t, "exit\n"+first+strings.Repeat(" ", 1024)+"?\n?", 2, api.ErrLexLine)
		checkRefused(t, "exit\n"+first+" "+strings.Repeat("a", 65), 2, api.ErrLexName)
	}
}

func TestLongTexts(t *testing.T) {
	row := ";" + strings.Repeat(":", 62) + "\n"
	lines := maxText / len(row)
	full := strings.Repeat(row, lines)
	checkSays(t, full)
	checkRefused(t, full+"\n", 0, api.ErrLexLong)
	checkRefused(t, full+"?", 0, api.ErrLexLong)
	checkRefused(t, "?"+full, 0, api.ErrLexLong)
	checkRefused(t, "foo\n"+full, 0, api.ErrLexLong)
	checkRefused(t, full[1:]+"?", 1, api.ErrParseToken)
	ahead := full[len(row):]
	checkSays(t, ahead+strings.Repeat(" ", 60)+"exit", on(lines, exit()))
	checkRefused(t, ahead+strings.Repeat(" ", 63)+"?", lines, api.ErrLexByte)
	checkRefused(t, ahead+strings.Repeat(" ", 61)+"foo", lines, api.ErrParseToken)
	checkSays(t, strings.Repeat("\n", maxText))
}

// A text as long as a text may be, with as many instructions as it can have.
func TestFullText(t *testing.T) {
	count := maxText / len("exit\n")
	ss, at, e := Statements([]byte(strings.Repeat("exit\n", count)))
	if len(ss) != count || at != 0 || e != api.OK {
		t.Fatalf("P6.1: of %d lines there are %d statements, %d, %d", count, len(ss), at, e)
	}
	for k, s := range ss {
		if !same(s, on(k+1, exit())) {
			t.Fatalf("P6.1: of %d lines statement %d is %+v", count, k, s)
		}
	}
	checkBack(t, ss)
}

// And with as many statements on each line as it can have.
func TestFullTextOfLabels(t *testing.T) {
	row := strings.Repeat("a:", 511) + "\n"
	count := maxText / len(row) * 511
	ss, at, e := Statements([]byte(strings.Repeat(row, maxText/len(row))))
	if len(ss) != count || at != 0 || e != api.OK {
		t.Fatalf("P6.1: of %d labels there are %d statements, %d, %d", count, len(ss), at, e)
	}
	for k, s := range ss {
		if !same(s, on(k/511+1, label("a"))) {
			t.Fatalf("P6.1: of %d labels statement %d is %+v", count, k, s)
		}
	}
	if text, e := Print(ss); text != "" || e != api.ErrLexLong {
		t.Errorf("P6.3: Print of %d labels = %d bytes, %d", count, len(text), e)
	}
}

// Names, and texts that are none.
var (
	goodNames = []string{"a", "_", "Z", "a.b$c_9", "r1", "mov", "array", "a.", "_0", strings.Repeat("z", 64), "z" + strings.Repeat("$", 63)}
	badNames  = []string{"", " ", "1", "1a", ".a", "$a", "a b", "a ", " a", "a:", "a,", "a-b", "a;b", "a#", "a\n", "\na", "a\r", "a\t", "a\x00", "\xffa", "\u00e4", "a\u00e4", strings.Repeat("z", 65), strings.Repeat("z", 70000)}
)

func TestPrintOfNames(t *testing.T) {
	for kind := -2; kind < 10; kind++ {
		for _, name := range slices.Concat(goodNames, badNames) {
			s := api.Statement{Kind: kind, Name: name, Line: 77}
			checkList(t, s)
			checkList(t, label("a"), s, label("1"))
			s.Words, s.Numbers = []string{"hash"}, []int{1, 2, 3}
			checkList(t, s)
		}
	}
	for _, kind := range []int{math.MinInt64, math.MaxInt64, 256 + api.StmtLabel, 1<<32 + api.StmtMap} {
		checkPrint(t, "", api.ErrParseToken, api.Statement{Kind: kind, Name: "a"})
		checkPrint(t, "", api.ErrParseToken, on(3, table("a", "hash", 1, 1, 1)), api.Statement{Kind: kind, Name: "a", Words: []string{"hash"}, Numbers: []int{1, 2, 3}})
	}
	checkPrint(t, "a:\n.func a\n.global a\n.extern a\n.map a hash 1 2 3\ncall a\n", api.OK,
		label("a"), function("a"), global("a"), extern("a"), table("a", "hash", 1, 2, 3), insn(api.Insn{Op: 0x85, Src: 1, Imm: -1}, "a"))
	checkPrint(t, "", api.OK)
}

// Every kind, with each of the fields that it does not use filled.
func TestPrintOfOtherFields(t *testing.T) {
	fillings := []func(*api.Statement){
		func(s *api.Statement) {},
		func(s *api.Statement) { s.Line = -5 },
		func(s *api.Statement) { s.Name += "b" },
		func(s *api.Statement) { s.Name = "" },
		func(s *api.Statement) { s.Words = append(s.Words, "hash") },
		func(s *api.Statement) { s.Words = append(s.Words, "") },
		func(s *api.Statement) { s.Words = []string{} },
		func(s *api.Statement) { s.Numbers = append(s.Numbers, 0) },
		func(s *api.Statement) { s.Numbers = []int{} },
		func(s *api.Statement) { s.Insn.Op = 0x95 },
		func(s *api.Statement) { s.Insn.Op = 0 },
		func(s *api.Statement) { s.Insn.Op = -1 },
		func(s *api.Statement) { s.Insn.Dst++ },
		func(s *api.Statement) { s.Insn.Src++ },
		func(s *api.Statement) { s.Insn.Off++ },
		func(s *api.Statement) { s.Insn.Imm++ },
		func(s *api.Statement) { s.Target += "t" },
		func(s *api.Statement) { s.Target = "1" },
		func(s *api.Statement) { s.Target = "" },
	}
	for _, s := range list(label("a"), function("a"), global("a"), extern("a"), table("a", "array", 1, 2, 3), exit(), insn(api.Insn{Op: 0x05}, "x"), api.Statement{}, api.Statement{Kind: 7, Name: "a"}) {
		for _, first := range fillings {
			for _, second := range fillings {
				filled := s
				first(&filled)
				second(&filled)
				checkList(t, filled)
				checkList(t, exit(), filled, label("1"))
			}
		}
	}
	checkPrint(t, "", api.ErrParseToken, api.Statement{Kind: api.StmtInsn, Name: "a"})
	checkPrint(t, "", api.ErrParseToken, api.Statement{Kind: api.StmtInsn, Numbers: []int{0}})
	checkPrint(t, "", api.ErrIsaField, insn(api.Insn{Op: 0x95, Dst: 1}, "x"))
	checkPrint(t, "", api.ErrLineOperand, on(5, insn(api.Insn{Op: 0x95}, "x")))
	checkPrint(t, "a:\nexit\n", api.OK, api.Statement{Kind: api.StmtLabel, Name: "a", Words: []string{}, Numbers: []int{}, Line: 9}, api.Statement{Kind: api.StmtInsn, Insn: api.Insn{Op: 0x95}, Words: []string{}, Numbers: []int{}})
}

func TestPrintOfTables(t *testing.T) {
	numbers := []int{math.MinInt64, -1, 0, 1, 10, math.MaxInt32 - 1, math.MaxInt32, math.MaxInt32 + 1, 1 << 32, 1<<32 + 1, math.MaxInt64}
	for _, kind := range []string{"array", "hash", "", "Array", "hashes", "has", "tree", "array ", "1"} {
		for _, n := range numbers {
			checkList(t, table("m", kind, n, 2, 3))
			checkList(t, table("m", kind, 1, n, 3))
			checkList(t, table("m", kind, 1, 2, n))
		}
	}
	for _, words := range [][]string{nil, {}, {"hash"}, {"hash", "hash"}, {"array", ""}, {"", "array"}} {
		for count := range 6 {
			checkList(t, api.Statement{Kind: api.StmtMap, Name: "m", Words: words, Numbers: []int{1, 2, 3, 4, 5}[:count]})
		}
	}
}

// The first statement that may not be decides, with its own error.
func TestFirstStatement(t *testing.T) {
	wrong := map[api.Errno]api.Statement{
		api.ErrParseToken: label("1"), api.ErrIsaOpcode: insn(api.Insn{Op: 8}, ""), api.ErrIsaField: insn(api.Insn{Op: 0x95, Imm: 1}, ""), api.ErrLineOperand: insn(api.Insn{Op: 0x05}, ""),
	}
	for e, first := range wrong {
		for _, second := range wrong {
			checkPrint(t, "", e, first, second)
			checkPrint(t, "", e, exit(), table("m", "hash", 1, 1, 1), first, exit(), second)
		}
	}
}

// Texts at the bound and beside it; a statement that may not be is told ahead of the length.
func TestPrintOfLongTexts(t *testing.T) {
	name := strings.Repeat("a", 62)
	row := name + ":\n"
	count := maxText / len(row)
	ss := slices.Repeat(list(label(name)), count)
	checkPrint(t, strings.Repeat(row, count), api.OK, ss...)
	checkBack(t, ss)
	ss[0].Name = name[1:]
	checkPrint(t, strings.Repeat(row, count)[1:], api.OK, ss...)
	ss[0].Name = name + "a"
	checkPrint(t, "", api.ErrLexLong, ss...)
	ss[0].Name = name
	checkPrint(t, "", api.ErrLexLong, append(ss, label("a"))...)
	checkPrint(t, "", api.ErrParseToken, append(ss, label("a"), label("1"))...)
	checkPrint(t, "", api.ErrIsaOpcode, append(ss, label("a"), insn(api.Insn{}, ""))...)
}

// Lists of right statements, and texts of many lines, by chance.
func TestThereAndBack(t *testing.T) {
	r := rand.New(rand.NewSource(6))
	lines := []string{"", "; x", "a:", "b: c:", ".func f", "g: .global f", ".extern h", ".map m hash 1 2 3", "exit", "l: mov r1, 0x7f", "ja a", "call h", "ldmap r1, m", "stxdw [r10-8], r0", "lddw r2, 18446744073709551615"}
	for range 3000 {
		var text strings.Builder
		for range r.Intn(12) {
			text.WriteString(lines[r.Intn(len(lines))] + []string{"\n", "\r\n", " ;\n", "\t# :\n"}[r.Intn(4)])
		}
		if r.Intn(3) == 0 {
			text.WriteString(lines[r.Intn(len(lines))])
		}
		checkText(t, text.String())
	}
	for range 3000 {
		ss := make([]api.Statement, r.Intn(10))
		for k := range ss {
			ss[k] = someStatement(r)
		}
		checkList(t, ss...)
	}
}

func someStatement(r *rand.Rand) api.Statement {
	name := goodNames[r.Intn(len(goodNames))]
	switch kind := 1 + r.Intn(6); kind {
	case api.StmtMap:
		return on(r.Intn(5), table(name, []string{"array", "hash"}[r.Intn(2)], r.Intn(1<<31), r.Intn(100), r.Intn(1<<31)))
	case api.StmtInsn:
		words := line.Words()
		for {
			text := words[r.Intn(len(words))] + []string{"", " r1", " r1, r2", " r1, -7", " " + name, " 7", " r1, " + name, " r1, r2, " + name, " r1, 7, " + name, " r1, [r2-8]", " [r1+8], r2", " [r1+0], 7"}[r.Intn(12)]
			if i, target, e := line.Parse(text); e == api.OK {
				return on(r.Intn(5), insn(i, target))
			}
		}
	default:
		return on(r.Intn(5), api.Statement{Kind: kind, Name: name})
	}
}

// What is handed in is neither changed nor kept.
func TestArgumentsAreLeft(t *testing.T) {
	const text = "a: .func f\n.map m hash 1 2 3\nja a\n"
	given := append([]byte(text), "spare"...)
	ss, _, _ := Statements(given[:len(text)])
	if string(given) != text+"spare" {
		t.Errorf("R4: Statements left %q", given)
	}
	for k := range given {
		given[k] = '?'
	}
	want := list(on(1, label("a")), on(1, function("f")), on(2, table("m", "hash", 1, 2, 3)), on(3, insn(api.Insn{Op: 0x05}, "a")))
	if !slices.EqualFunc(ss, want, same) {
		t.Errorf("R4: Statements keeps the text: %+v", ss)
	}
	words, numbers := []string{"hash", "spare"}, []int{1, 2, 3, 4}
	handed := []api.Statement{{Kind: api.StmtMap, Name: "m", Words: words[:1], Numbers: numbers[:3], Line: 8}, label("b"), label("spare")}
	checkPrint(t, ".map m hash 1 2 3\nb:\n", api.OK, handed[:2]...)
	if !slices.Equal(words, []string{"hash", "spare"}) || !slices.Equal(numbers, []int{1, 2, 3, 4}) || !same(handed[0], on(8, table("m", "hash", 1, 2, 3))) || !same(handed[2], label("spare")) {
		t.Errorf("R4: Print left %+v, %v, %v", handed, words, numbers)
	}
}

// What is handed out is new memory, and no two of its lists share any.
func TestAnswersAreNew(t *testing.T) {
	text := []byte(".map m hash 1 2 3\n.map n array 4 5 6\na: b:\n")
	want := list(on(1, table("m", "hash", 1, 2, 3)), on(2, table("n", "array", 4, 5, 6)), on(3, label("a")), on(3, label("b")))
	first, _, _ := Statements(text)
	second, _, _ := Statements(text)
	for _, n := range [][]int{first[0].Numbers, first[1].Numbers} {
		_ = append(n, 7, 7, 7)
	}
	for _, w := range [][]string{first[0].Words, first[1].Words} {
		_ = append(w, "x", "x")
	}
	_ = append(first, label("x"))
	if !slices.EqualFunc(first, want, same) {
		t.Errorf("R4: lists of one answer share memory: %+v", first)
	}
	first[0].Words[0], first[0].Numbers[1], first[2].Name = "spoilt", 77, "spoilt"
	if !same(first[1], want[1]) || !slices.EqualFunc(second, want, same) {
		t.Errorf("R4: answers share memory: %+v, %+v", first, second)
	}
	checkSays(t, string(text), want...)
}
