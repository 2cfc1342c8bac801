package line

import (
	"fmt"
	"math"
	"slices"
	"sort"
	"strings"
	"testing"

	"spindle/api"
	"spindle/isa"
)

func checkPrint(t *testing.T, i api.Insn, target, want string, wantE api.Errno) {
	t.Helper()
	if s, e := Print(i, target); s != want || e != wantE {
		t.Errorf("P4.1: Print(%+v, %q) = %q, %d, want %q, %d", i, target, s, e, want, wantE)
	}
}

func checkParse(t *testing.T, text string, want api.Insn, wantTarget string, wantE api.Errno) {
	t.Helper()
	if i, target, e := Parse(text); i != want || target != wantTarget || e != wantE {
		t.Errorf("P4.2: Parse(%q) = %+v, %q, %d, want %+v, %q, %d", text, i, target, e, want, wantTarget, wantE)
	}
}

func checkRefuses(t *testing.T, text string, want api.Errno) {
	t.Helper()
	checkParse(t, text, api.Insn{}, "", want)
}

// check holds Parse of a line against the reading of it by the chapter's words, and Print of its answer.
func (g grammar) check(t *testing.T, text string) {
	t.Helper()
	want, wantTarget, wantE := g.parse(text)
	checkParse(t, text, want, wantTarget, wantE)
	if wantE == api.OK {
		checkBack(t, want, wantTarget)
	}
}

// checkBack: what Parse answers Print takes, and Parse of that line is the same again.
func checkBack(t *testing.T, i api.Insn, target string) {
	t.Helper()
	s, e := Print(i, target)
	if j, back, e2 := Parse(s); e != api.OK || e2 != api.OK || j != i || back != target {
		t.Errorf("P4.4: Print(%+v, %q) = %q, %d; Parse of it = %+v, %q, %d", i, target, s, e, j, back, e2)
	}
}

func TestPrintExamples(t *testing.T) {
	checkPrint(t, in(0x0f, 1, 2, 0, 0), "", "add r1, r2", api.OK)
	checkPrint(t, in(0x07, 1, 0, 0, -5), "", "add r1, -5", api.OK)
	checkPrint(t, in(0x71, 1, 2, 0, 0), "", "ldxb r1, [r2+0]", api.OK)
	checkPrint(t, in(0x7b, 10, 0, -8, 0), "", "stxdw [r10-8], r0", api.OK)
	checkPrint(t, in(0x15, 1, 0, 0, 7), "x", "jeq r1, 7, x", api.OK)
	checkPrint(t, in(0x15, 1, 0, 3, 7), "x", "", api.ErrLineOperand)
	checkPrint(t, in(0x15, 1, 0, 0, 7), "", "", api.ErrLineOperand)
	checkPrint(t, in(0x85, 0, 0, 0, 1), "", "call 1", api.OK)
	checkPrint(t, in(0x85, 0, 1, 0, -1), "f", "call f", api.OK)
	checkPrint(t, in(0x95, 0, 0, 0, 0), "f", "", api.ErrLineOperand)
	checkPrint(t, in(0xdb, 1, 2, 0, 0xf1), "", "acmpxchg [r1+0], r2", api.OK)
	checkPrint(t, in(0xdc, 3, 0, 0, 16), "", "be16 r3", api.OK)
	checkPrint(t, in(8, 0, 0, 0, 0), "", "", api.ErrIsaOpcode)
	checkPrint(t, in(0x95, 1, 0, 0, 0), "", "", api.ErrIsaField)
}

func TestParseExamples(t *testing.T) {
	checkParse(t, "mov r1 ,0xFFFFFFFF ", in(0xb7, 1, 0, 0, -1), "", api.OK)
	checkRefuses(t, "mov r1, 4294967296", api.ErrLineNumber)
	checkRefuses(t, "mov r1, 08", api.ErrLineOperand)
	checkRefuses(t, "mov r1", api.ErrLineOperand)
	checkParse(t, "lddw r1, 18446744073709551615", in(0x18, 1, 0, 0, -1), "", api.OK)
	checkParse(t, "lddw r1, - 9223372036854775808", in(0x18, 1, 0, 0, math.MinInt64), "", api.OK)
	checkRefuses(t, "lddw r1, 0x10000000000000000", api.ErrLineOperand)
	checkRefuses(t, "ldxb r1, [r2]", api.ErrLineOperand)
	checkRefuses(t, "ldxb r1,[r2+32768]", api.ErrLineNumber)
	checkParse(t, "ldxb r1, [ r2 - 0x8 ]", in(0x71, 1, 2, -8, 0), "", api.OK)
	checkParse(t, "call mov", in(0x85, 0, 1, 0, -1), "mov", api.OK)
	checkParse(t, "ja r1", in(0x05, 0, 0, 0, 0), "r1", api.OK)
	checkParse(t, "jeq r1, r2, r3", in(0x1d, 1, 2, 0, 0), "r3", api.OK)
	checkParse(t, "call -1", in(0x85, 0, 0, 0, -1), "", api.OK)
	checkRefuses(t, "", api.ErrLineForm)
	checkRefuses(t, "movq r1, r2", api.ErrLineForm)
	checkRefuses(t, "? mov r1, r2", api.ErrLineForm)
	checkRefuses(t, "mov r1, r2 ;", api.ErrLineOperand)
}

func TestWords(t *testing.T) {
	want := map[string]int{}
	for _, f := range forms() {
		want[f.word]++
	}
	words := Words()
	if len(words) != 107 || len(want) != 107 || !sort.StringsAreSorted(words) {
		t.Errorf("P4.3: %d words, want %d, rising: %q", len(words), len(want), words)
	}
	for k, word := range words {
		if want[word] == 0 || k > 0 && words[k-1] == word {
			t.Errorf("P4.3: %q is none, or stands twice", word)
		}
		if _, _, e := Parse(word); e == api.ErrLineForm {
			t.Errorf("P4.2: Parse(%q) = %d", word, e)
		}
	}
	if short, long := slices.Index(words, "add"), slices.Index(words, "add32"); short < 0 || long != short+1 {
		t.Errorf("P4.3: add stands at %d, add32 at %d: a beginning comes first", short, long)
	}
}

func TestWordsAreNewEachTime(t *testing.T) {
	first, second := Words(), Words()
	want := slices.Clone(first)
	for k := range first {
		first[k] = "spoilt"
	}
	_ = append(first[:0:cap(first)], "spoilt")
	if !slices.Equal(second, want) || !slices.Equal(Words(), want) {
		t.Error("R4: Words hands out a list that it keeps")
	}
	if _, _, e := Parse(want[0] + " [r1+0], r2"); e != api.OK {
		t.Errorf("R4: %s is no word any more: %d", want[0], e)
	}
}

// Numbers at the fields' bounds and beside them, and those that some instruction has fixed.
var (
	someRegisters = []int{-1, 0, 1, 9, 10, 11}
	someOffs      = []int{-32769, -32768, -1, 0, 1, 8, 16, 32, 32767, 32768}
	someImms      = []int{math.MinInt64, math.MinInt32 - 1, math.MinInt32, -1, 0, 1, 2, 16, 32, 64, 0x40, 0x50, 0xa0, 0x41, 0x51, 0xa1, 0xe1, 0xf1,
		math.MaxInt32, math.MaxInt32 + 1, math.MaxUint32, 1 << 32, math.MaxInt64}
)

// someInsns gives instructions of every opcode and of some numbers that are none, with all their fields at and beside their bounds.
func someInsns(each func(api.Insn)) {
	for _, op := range append(isa.Ops(), -1, 0, 8, 0x8d, 255, 256, 256+0x95) {
		for _, dst := range someRegisters {
			for _, src := range someRegisters {
				for _, off := range someOffs {
					for _, imm := range someImms {
						each(in(op, dst, src, off, imm))
					}
				}
			}
		}
	}
}

// Names, and texts that are none.
var (
	longest  = strings.Repeat("Z", 64)
	someGood = []string{"x", "_", "A", "z", "a.b$c_9", "r1", "r10", "mov", "exit", "array", "_0", "Z$", "a.", "L0", longest, "z" + strings.Repeat("$", 63)}
	someBad  = []string{"", " ", "1", "0x1", "1a", ".a", "$a", "-a", "a b", "a ", " a", "a,", "a:", "a-b", "a\n", "a\x00", "\xffa", "ä", "aä", "@", "a@", "[", "{", "`", "a/", longest + "Z", strings.Repeat("a", 1<<16)}
)

func TestPrintOfEveryOpcode(t *testing.T) {
	byOp := map[int][]form{}
	for _, f := range forms() {
		byOp[f.base.Op] = append(byOp[f.base.Op], f)
	}
	printed := map[string]bool{}
	someInsns(func(i api.Insn) {
		if e := isa.May(i); e != api.OK {
			checkRefusesInsn(t, i, e)
			return
		}
		k := slices.IndexFunc(byOp[i.Op], func(f form) bool { return f.has(i) })
		f := byOp[i.Op][k]
		printed[f.word+" "+f.operands] = true
		switch {
		case !f.hasTarget():
			checkPrintAndBack(t, i, "", f.line(i, ""))
			checkPrint(t, i, "x", "", api.ErrLineOperand)
		case f.free(i):
			checkPrintAndBack(t, i, "x", f.line(i, "x"))
			checkPrint(t, i, "", "", api.ErrLineOperand)
			checkPrint(t, i, "1a", "", api.ErrLineOperand)
		default:
			checkPrint(t, i, "x", "", api.ErrLineOperand)
			checkPrint(t, i, "", "", api.ErrLineOperand)
		}
	})
	if len(printed) != len(forms()) {
		t.Errorf("P4.1: %d ways to write an instruction were tried, there are %d", len(printed), len(forms()))
	}
}

func checkRefusesInsn(t *testing.T, i api.Insn, e api.Errno) {
	t.Helper()
	if i.Dst != i.Src {
		return
	}
	checkPrint(t, i, "", "", e)
	checkPrint(t, i, "x", "", e)
	checkPrint(t, i, "1a", "", e)
}

// checkPrintAndBack: Print is the line, and Parse of the line is the instruction and its target.
func checkPrintAndBack(t *testing.T, i api.Insn, target, want string) {
	t.Helper()
	checkPrint(t, i, target, want, api.OK)
	if i.Dst > 1 && i.Dst < 10 || i.Src > 1 && i.Src < 10 {
		return
	}
	if j, back, e := Parse(want); j != i || back != target || e != api.OK {
		t.Errorf("P4.4: Parse(%q) = %+v, %q, %d, want %+v, %q", want, j, back, e, i, target)
	}
}

func TestPrintOfTargets(t *testing.T) {
	for _, f := range forms() {
		i := f.base
		for _, name := range someGood {
			if f.hasTarget() {
				checkPrintAndBack(t, i, name, f.line(i, name))
			} else {
				checkPrint(t, i, name, "", api.ErrLineOperand)
			}
		}
		for _, text := range someBad {
			if f.hasTarget() || text != "" {
				checkPrint(t, i, text, "", api.ErrLineOperand)
			}
		}
		for _, n := range []int{-32768, -2, -1, 0, 1, 32767} {
			checkTargetField(t, f, n)
		}
	}
}

// checkTargetField holds a form's target to the field in whose place it stands.
func checkTargetField(t *testing.T, f form, n int) {
	t.Helper()
	i, want := f.base, api.ErrLineOperand
	switch {
	case !f.hasTarget():
		return
	case strings.Contains(f.operands, "O"):
		i.Off = n
	default:
		i.Imm = n
	}
	if i == f.base {
		want = api.OK
	}
	if _, e := Print(i, "name"); e != want {
		t.Errorf("P4.1: Print(%+v, name) = %d, want %d", i, e, want)
	}
}

// basicLines gives each form once, with each operand another.
func basicLines() []string {
	var list []string
	for _, f := range forms() {
		i := f.base
		if strings.ContainsAny(f.operands, "DQ") {
			i.Dst = 1
		}
		if strings.ContainsAny(f.operands, "SP") {
			i.Src = 10
		}
		if strings.ContainsAny(f.operands, "PQ") {
			i.Off = -8
		}
		if strings.ContainsAny(f.operands, "IL") {
			i.Imm = -7
		}
		list = append(list, f.line(i, "name"))
	}
	return list
}

// shapes gives one basic line for each list of operands.
func shapes() []string {
	var list []string
	seen := map[string]bool{}
	for k, f := range forms() {
		if !seen[f.operands] || f.word == "call" || f.word == "movs8" {
			seen[f.operands] = true
			list = append(list, basicLines()[k])
		}
	}
	return list
}

// someTokens are tokens of each kind, and some that only look like one.
var someTokens = []string{"r1", "r10", "r11", "r01", "r", "R1", "r1.", "r00", "name", "mov", "_", longest, longest + "Z", "0", "5", "08", "00", "0x", "0xF", "0X1", "0xg", "0xG", "0xfG",
	"0x0123456789abcdef", "0x10000000000000000", "1a", "5.", "5$", "5_", "4294967296", ",", "[", "]", "+", "-", ":", ";", ".", "$", "?", "[r1+0]", "- 1", "+ 1", "", "r1, r2", "-1", "--1", "+-1"}

func TestParseOfOtherTokens(t *testing.T) {
	g := newGrammar()
	for _, text := range shapes() {
		tokens, _ := cut(text)
		for k := range tokens {
			g.check(t, strings.Join(slices.Delete(slices.Clone(tokens), k, k+1), " "))
			g.check(t, strings.Join(tokens[:k], " "))
			for _, other := range someTokens {
				g.check(t, strings.Join(slices.Concat(tokens[:k], []string{other}, tokens[k:]), " "))
				g.check(t, strings.Join(slices.Concat(tokens[:k], []string{other}, tokens[k+1:]), " "))
			}
		}
		for _, other := range someTokens {
			g.check(t, text+" "+other)
			g.check(t, text+","+other)
			g.check(t, other+" "+text)
		}
	}
}

func TestParseOfEveryMnemonic(t *testing.T) {
	g := newGrammar()
	for _, text := range basicLines() {
		g.check(t, text)
		if i, target, e := Parse(text); e != api.OK {
			t.Errorf("P4.2: Parse(%q) = %d", text, e)
		} else if s, e := Print(i, target); s != text || e != api.OK {
			t.Errorf("P4.4: Print(Parse(%q)) = %q, %d", text, s, e)
		}
		word, behind, _ := strings.Cut(text, " ")
		for _, other := range basicLines() {
			_, othersBehind, _ := strings.Cut(other, " ")
			g.check(t, word+" "+othersBehind)
		}
		for _, close := range []string{word + "x", "x" + word, strings.ToUpper(word), word[:len(word)-1], word + "32", word + ".", word + "$", word + "_", "_" + word, "." + word, word + "\x00"} {
			g.check(t, close+" "+behind)
		}
		g.check(t, word)
		g.check(t, word+",")
		g.check(t, word+" ,"+behind)
		g.check(t, behind)
		g.check(t, behind+" "+word)
	}
}

func TestParseOfBlanksEverywhere(t *testing.T) {
	g := newGrammar()
	for _, text := range shapes() {
		for at := range len(text) + 1 {
			for _, blank := range []string{" ", "\t", " \t \t ", "\n", "\r", "\v", "\u00a0"} {
				g.check(t, text[:at]+blank+text[at:])
			}
		}
		tokens, _ := cut(text)
		g.check(t, "\t "+strings.Join(tokens, " \t")+"\t\t ")
		want, wantTarget, _ := Parse(text)
		checkParse(t, " "+strings.Join(tokens, "\t")+" ", want, wantTarget, api.OK)
		if squeezed := strings.Join(tokens[1:], ""); squeezed != "" {
			checkParse(t, tokens[0]+" "+squeezed, want, wantTarget, api.OK)
		}
	}
	for _, text := range []string{" ", "\t", " \t ", "\n", ",", "[", "]", "+", "-", "5", "0x5", "r1", "?", "\x00"} {
		checkRefuses(t, text, api.ErrLineForm)
	}
}

func TestParseOfEveryByteEverywhere(t *testing.T) {
	g := newGrammar()
	for _, text := range shapes() {
		for at := range len(text) + 1 {
			g.check(t, text[:at])
			g.check(t, text[at:])
			for b := range 256 {
				if at%3 == b%3 || b < 48 || b > 122 {
					g.check(t, text[:at]+string([]byte{byte(b)})+text[at:])
				}
			}
		}
	}
	for b := range 256 {
		for c := range 256 {
			checkParse(t, string([]byte{byte(b), byte(c)}), in(0, 0, 0, 0, 0), "", twoBytesError(b, c))
		}
		g.check(t, "exit"+string([]byte{byte(b)}))
		g.check(t, string([]byte{byte(b)})+"exit")
		g.check(t, "ja a"+string([]byte{byte(b)}))
		g.check(t, "ja "+string([]byte{byte(b)}))
	}
}

// twoBytesError: ja and or are the mnemonics of two bytes, and both have operands.
func twoBytesError(b, c int) api.Errno {
	if s := string([]byte{byte(b), byte(c)}); s == "ja" || s == "or" {
		return api.ErrLineOperand
	}
	return api.ErrLineForm
}

// writings gives a number in all ways, and in such as look like one.
func writings(n uint64, huge string) []string {
	texts := []string{fmt.Sprint(n), fmt.Sprintf("0x%x", n), fmt.Sprintf("0x%X", n), fmt.Sprintf("0x%016x", n), fmt.Sprintf("0x%017x", n),
		fmt.Sprintf("0X%x", n), fmt.Sprintf("0%d", n), fmt.Sprintf("%da", n), fmt.Sprintf("0x%xg", n), fmt.Sprintf("%d.0", n), fmt.Sprintf("%d_0", n), huge}
	var list []string
	for _, text := range texts {
		for _, sign := range []string{"", "+", "-", "+ ", "-\t ", "--", "+-", "- -"} {
			list = append(list, sign+text)
		}
	}
	return list
}

func TestParseOfNumbers(t *testing.T) {
	g := newGrammar()
	lines := []string{"mov r1, N", "add32 r10, N", "jeq r1, N, x", "jsle32 r1, N, x", "call N", "stb [r1+0], N", "stdw [r1N], 5", "lddw r1, N", "ldxb r1, [r2N]", "ldxdw r1, [r2 + N]", "stxw [r1 - N], r2", "afadd [r1N], r2", "ldmap r1, N", "neg N", "ja N"}
	numbers := []uint64{0, 1, 7, 8, 9, 10, 1<<15 - 1, 1 << 15, 1<<15 + 1, 1<<16 - 1, 1 << 16, 1<<31 - 1, 1 << 31, 1<<31 + 1, 1<<32 - 1, 1 << 32, 1<<32 + 1, 1<<63 - 1, 1 << 63, 1<<63 + 1, 1<<64 - 1, 1<<64 - 2}
	huges := []string{"18446744073709551616", "18446744073709551617", "36893488147419103232", "99999999999999999999999999999999999", "100000000000000000000a", "184467440737095516160x", "340282366920938463463374607431768211456"}
	for k, n := range numbers {
		for _, text := range writings(n, huges[k%len(huges)]) {
			for _, line := range lines {
				g.check(t, strings.Replace(line, "N", text, 1))
			}
		}
	}
}

func TestNumbersAtTheirBounds(t *testing.T) {
	for _, c := range []struct {
		text string
		imm  int
	}{
		{"2147483647", 1<<31 - 1}, {"2147483648", -1 << 31}, {"4294967295", -1}, {"-2147483648", -1 << 31}, {"+4294967295", -1}, {"0x7fffffff", 1<<31 - 1}, {"0x80000000", -1 << 31}, {"-0x80000000", -1 << 31}, {"-0", 0}, {"+0", 0}, {"0x0000000000000001", 1}, {"-0xF", -15},
	} {
		checkParse(t, "mov r1, "+c.text, in(0xb7, 1, 0, 0, c.imm), "", api.OK)
	}
	for _, text := range []string{"4294967296", "-2147483649", "0x100000000", "-0x80000001", "+4294967296", "-4294967295", "18446744073709551616", "-18446744073709551616"} {
		checkRefuses(t, "mov r1, "+text, api.ErrLineNumber)
	}
	for _, c := range []struct {
		text string
		imm  int
	}{
		{"9223372036854775807", math.MaxInt64}, {"9223372036854775808", math.MinInt64}, {"0xffffffffffffffff", -1}, {"-0x8000000000000000", math.MinInt64}, {"4294967295", 1<<32 - 1}, {"-2147483649", -1<<31 - 1},
	} {
		checkParse(t, "lddw r1, "+c.text, in(0x18, 1, 0, 0, c.imm), "", api.OK)
	}
	for _, text := range []string{"18446744073709551616", "-9223372036854775809", "-0x8000000000000001", "-18446744073709551615"} {
		checkRefuses(t, "lddw r1, "+text, api.ErrLineNumber)
	}
	checkParse(t, "ldxb r1, [r2+32767]", in(0x71, 1, 2, 32767, 0), "", api.OK)
	checkParse(t, "ldxb r1, [r2-32768]", in(0x71, 1, 2, -32768, 0), "", api.OK)
	checkParse(t, "ldxb r1, [r2-0]", in(0x71, 1, 2, 0, 0), "", api.OK)
	for _, text := range []string{"+32768", "-32769", "+65535", "+18446744073709551616", "-0x8001", "+0xffffffffffffffff"} {
		checkRefuses(t, "ldxb r1, [r2"+text+"]", api.ErrLineNumber)
	}
}

func TestWhichErrorGoesAhead(t *testing.T) {
	for _, text := range []string{"mov r1, 4294967296 ;", "mov r1, 4294967296,", "mov r11, 4294967296", "jeq r1, 4294967296", "jeq r1, 4294967296, 1a", "stb [r1+32768], x", "stb [r1+32768], 08", "stb [r1+32768] 5", "stb [r1+1], 4294967296 5", "ldxb r1, [r2+32768", "lddw r1, 18446744073709551616 ?", "ldxb r11, [r2+32768]"} {
		checkRefuses(t, text, api.ErrLineOperand)
	}
	for _, text := range []string{"stb [r1+32768], 1", "stb [r1+1], 4294967296", "stb [r1-32769], 4294967296", "jeq r1, 4294967296, x", "call 4294967296"} {
		checkRefuses(t, text, api.ErrLineNumber)
	}
	for _, text := range []string{"movq r1, 4294967296", "? mov r11", "movq r1, ?", "?", "5 mov"} {
		checkRefuses(t, text, api.ErrLineForm)
	}
}

func TestNamesAndRegisters(t *testing.T) {
	for _, name := range someGood {
		checkParse(t, "ja "+name, in(0x05, 0, 0, 0, 0), name, api.OK)
		checkParse(t, "ja32 "+name, in(0x06, 0, 0, 0, 0), name, api.OK)
		checkParse(t, "call "+name, in(0x85, 0, 1, 0, -1), name, api.OK)
		checkParse(t, "ldmap r3, "+name, in(0x18, 3, 1, 0, 0), name, api.OK)
		checkParse(t, "jne r3, 0, "+name, in(0x55, 3, 0, 0, 0), name, api.OK)
	}
	for _, name := range []string{longest + "Z", longest + ".", "1a", ".a", "$a", "a b", "a:", "ä", "", "a-b", "5", "-a", "[r1+0]"} {
		checkRefuses(t, "ja "+name, api.ErrLineOperand)
		checkRefuses(t, "call "+name+"?", api.ErrLineOperand)
		checkRefuses(t, "ldmap r3, "+name, api.ErrLineOperand)
		checkRefuses(t, "jne r3, 0, "+name, api.ErrLineOperand)
	}
	for n := range 11 {
		checkParse(t, fmt.Sprintf("neg r%d", n), in(0x87, n, 0, 0, 0), "", api.OK)
		checkParse(t, fmt.Sprintf("mov r1, r%d", n), in(0xbf, 1, n, 0, 0), "", api.OK)
		checkParse(t, fmt.Sprintf("stxb [r%d+1], r3", n), in(0x73, n, 3, 1, 0), "", api.OK)
	}
	for _, none := range []string{"r11", "r01", "r00", "r", "R1", "r1x", "r1.", "r100", "r-1", "r 1", "_r1", "x", "mov", "1", "r١"} {
		checkRefuses(t, "neg "+none, api.ErrLineOperand)
		checkRefuses(t, "movs8 r1, "+none, api.ErrLineOperand)
		checkRefuses(t, "stxb ["+none+"+1], r3", api.ErrLineOperand)
	}
}

func TestLongTexts(t *testing.T) {
	const size = api.MaxText
	blanks := strings.Repeat(" \t", size/2)
	checkParse(t, blanks+"ja"+blanks+"x"+blanks, in(0x05, 0, 0, 0, 0), "x", api.OK)
	checkRefuses(t, blanks, api.ErrLineForm)
	checkRefuses(t, "exit"+blanks+";", api.ErrLineOperand)
	checkRefuses(t, strings.Repeat("a", size), api.ErrLineForm)
	checkRefuses(t, "ja "+strings.Repeat("a", size), api.ErrLineOperand)
	checkRefuses(t, "neg "+strings.Repeat("r", size), api.ErrLineOperand)
	checkRefuses(t, "mov r1, "+strings.Repeat("1", size), api.ErrLineNumber)
	checkRefuses(t, "mov r1, "+strings.Repeat("1", size)+"x", api.ErrLineOperand)
	checkRefuses(t, "mov r1, 0x"+strings.Repeat("0", size), api.ErrLineOperand)
	checkRefuses(t, "mov r1, "+strings.Repeat("0", size), api.ErrLineOperand)
	checkRefuses(t, "mov r1, "+strings.Repeat("-", size), api.ErrLineOperand)
	checkRefuses(t, strings.Repeat("exit ", size/5), api.ErrLineOperand)
	checkPrint(t, in(0x05, 0, 0, 0, 0), strings.Repeat("a", size), "", api.ErrLineOperand)
}
