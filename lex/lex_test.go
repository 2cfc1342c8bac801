package lex

import (
	"fmt"
	"math/rand"
	"slices"
	"strconv"
	"strings"
	"testing"

	"spindle/api"
)

const maxText = 16777216

func word(text string) api.Token { return api.Token{Kind: api.TokenWord, Text: text} }
func dot(text string) api.Token  { return api.Token{Kind: api.TokenDot, Text: text} }
func num(n uint64) api.Token     { return api.Token{Kind: api.TokenNumber, Number: n} }
func sign(text string) api.Token { return api.Token{Kind: api.TokenMark, Text: text} }
func eol() api.Token             { return api.Token{Kind: api.TokenLine} }
func end() api.Token             { return api.Token{Kind: api.TokenEnd} }

func list(ts ...api.Token) []api.Token { return ts }

// short gives the beginning of what may be very long, for messages.
func short(v any) string {
	return fmt.Sprintf("%.200s", fmt.Sprintf("%+v", v))
}

// told gives tokens in the way of the chapter's examples.
func told(ts []api.Token) string {
	var parts []string
	for _, t := range ts {
		what := "?" + strconv.Itoa(t.Kind)
		if t.Kind >= 0 && t.Kind <= 5 {
			what = "EWDNML"[t.Kind : t.Kind+1]
		}
		if t.Kind == api.TokenNumber || t.Number != 0 {
			what += " " + strconv.FormatUint(t.Number, 10)
		}
		if t.Text != "" {
			what += " " + t.Text
		}
		parts = append(parts, what+"@"+strconv.Itoa(t.Line))
	}
	return strings.Join(parts, " ")
}

func checkTold(t *testing.T, text, want string) {
	t.Helper()
	ts, at, e := Tokens([]byte(text))
	if told(ts) != want || at != 0 || e != api.OK {
		t.Errorf("P5.1: Tokens(%.60q) = %.200s, %d, %d, want %.200s, 0, OK", text, told(ts), at, e, want)
	}
}

func checkRefused(t *testing.T, text string, wantAt int, want api.Errno) {
	t.Helper()
	if ts, at, e := Tokens([]byte(text)); len(ts) > 0 || at != wantAt || e != want {
		t.Errorf("P5.1: Tokens(%.60q) = %d tokens, %d, %d, want none, %d, %d", text, len(ts), at, e, wantAt, want)
	}
}

// checkText holds Tokens of a text against its reading by the chapter's words, and Untoken of the answer.
func checkText(t *testing.T, text string) {
	t.Helper()
	want, wantAt, wantE := readTokens(text)
	ts, at, e := Tokens([]byte(text))
	if !slices.Equal(ts, want) || at != wantAt || e != wantE {
		t.Errorf("P5.1: Tokens(%.60q) = %.200s, %d, %d, want %.200s, %d, %d", text, told(ts), at, e, told(want), wantAt, wantE)
		return
	}
	if e == api.OK {
		checkBack(t, ts)
	}
}

// checkBack: Untoken of what Tokens gave is refused by nothing but sizes, and Tokens of its text is the list again.
func checkBack(t *testing.T, ts []api.Token) {
	t.Helper()
	text, e := Untoken(ts)
	if e == api.ErrLexLine || e == api.ErrLexLong {
		if _, want := readUntoken(ts); e != want {
			t.Errorf("P5.3: Untoken(%.200s) is %d, want %d", told(ts), e, want)
		}
		return
	}
	back, at, e2 := Tokens([]byte(text))
	if e != api.OK || e2 != api.OK || at != 0 || !slices.Equal(back, ts) {
		t.Errorf("P5.3: Untoken(%.200s) = %.60q, %d; Tokens of it = %.200s, %d, %d", told(ts), text, e, told(back), at, e2)
	}
}

func checkUntoken(t *testing.T, ts []api.Token, want string, wantE api.Errno) {
	t.Helper()
	if text, e := Untoken(ts); text != want || e != wantE {
		t.Errorf("P5.2: Untoken(%s) = %.60q, %d, want %.60q, %d", short(ts), text, e, want, wantE)
	}
}

// checkList holds Untoken of a list against its reading by the chapter's words, and Tokens of the text that it gives.
func checkList(t *testing.T, ts []api.Token) {
	t.Helper()
	want, wantE := readUntoken(ts)
	checkUntoken(t, ts, want, wantE)
	if wantE != api.OK {
		return
	}
	back, at, e := Tokens([]byte(want))
	if at != 0 || e != api.OK || !slices.Equal(back, numbered(ts)) {
		t.Errorf("P5.3: Tokens(%.60q) = %.200s, %d, %d, want what the text was written of", want, told(back), at, e)
	}
}

// numbered gives tokens with the numbers of their lines.
func numbered(ts []api.Token) []api.Token {
	out := slices.Clone(ts)
	line := 1
	for k := range out {
		out[k].Line = line
		if out[k].Kind == api.TokenLine {
			line++
		}
		if out[k].Kind == api.TokenEnd {
			out[k].Line = line - 1
		}
	}
	return out
}

func TestTokensExamples(t *testing.T) {
	checkTold(t, "", "E@0")
	checkTold(t, "\n", "L@1 E@1")
	checkTold(t, "a", "W a@1 L@1 E@1")
	checkTold(t, "a\n", "W a@1 L@1 E@1")
	checkTold(t, ".func f ; x\n\tldxw r1, [r2-8]", "D .func@1 W f@1 L@1 W ldxw@2 W r1@2 M ,@2 M [@2 W r2@2 M -@2 N 8@2 M ]@2 L@2 E@2")
	checkTold(t, "a.b$1_:+0x1F 18446744073709551615", "W a.b$1_@1 M :@1 M +@1 N 31@1 N 18446744073709551615@1 L@1 E@1")
	checkTold(t, "0", "N 0@1 L@1 E@1")
	for _, text := range []string{"08", "0x", "0x12345678901234567", "1a", "18446744073709551616"} {
		checkRefused(t, text, 1, api.ErrLexNumber)
	}
	checkRefused(t, "a\n\"", 2, api.ErrLexByte)
	checkRefused(t, ".", 1, api.ErrLexByte)
	checkRefused(t, ".1", 1, api.ErrLexByte)
	checkRefused(t, "# \xff\n\xff", 2, api.ErrLexByte)
	checkRefused(t, strings.Repeat("a", 65), 1, api.ErrLexName)
	checkTold(t, "."+strings.Repeat("a", 64), "D ."+strings.Repeat("a", 64)+"@1 L@1 E@1")
	checkRefused(t, strings.Repeat(" ", 1025), 1, api.ErrLexLine)
	checkTold(t, strings.Repeat(" ", 1024)+"\n", "L@1 E@1")
	checkRefused(t, "\" "+strings.Repeat("a", 1030), 1, api.ErrLexLine)
}

func TestUntokenExamples(t *testing.T) {
	checkUntoken(t, nil, "", api.ErrLexByte)
	checkUntoken(t, list(end()), "", api.OK)
	checkUntoken(t, list(word("a"), end()), "", api.ErrLexByte)
	checkUntoken(t, list(word("a"), eol(), end()), "a\n", api.OK)
	checkUntoken(t, list(end(), end()), "", api.ErrLexByte)
	checkUntoken(t, list(word("r1"), sign(","), num(31), eol(), eol(), end()), "r1 , 31\n\n", api.OK)
	for _, behind := range [][]api.Token{nil, {eol(), end()}} {
		checkUntoken(t, slices.Concat(list(word("1a")), behind), "", api.ErrLexName)
		checkUntoken(t, slices.Concat(list(sign(";")), behind), "", api.ErrLexByte)
		checkUntoken(t, slices.Concat(list(api.Token{Kind: 6}), behind), "", api.ErrLexByte)
	}
}

// Each byte, in each place where it matters: alone, first, within, last, and behind what hides it.
func TestEveryByte(t *testing.T) {
	for c := range 256 {
		b := string([]byte{byte(c)})
		for _, form := range []string{"*", "**", "a*", "a*b", "*a", ".*", ".*a", ".a*", ".a*b", "1*", "1*2", "0*", "0x*", "0x1*", "*1", " *", ":*", "*:", ";*", "#*", "a;*b", "a #*", "\r*\r", "$*", "a\n*", "*\na", "a\n*\n\"", "\t*\n1a"} {
			checkText(t, strings.ReplaceAll(form, "*", b))
		}
	}
}

// Two bytes of all in a row, between two words.
func TestPairsOfBytes(t *testing.T) {
	for c := range 256 {
		for d := range 256 {
			checkText(t, string([]byte{'a', ' ', byte(c), byte(d), ' ', 'b'}))
		}
	}
}

// All short texts of bytes of each kind.
func TestShortTexts(t *testing.T) {
	var grow func(text string, more int)
	grow = func(text string, more int) {
		checkText(t, text)
		for k := 0; more > 0 && k < len(alphabet); k++ {
			grow(text+alphabet[k:k+1], more-1)
		}
	}
	grow("", 4)
}

const alphabet = "aF_x09.$:- \t\r\n;#\"\x80"

func TestMarks(t *testing.T) {
	checkTold(t, ":,[]+-", "M :@1 M ,@1 M [@1 M ]@1 M +@1 M -@1 L@1 E@1")
	checkTold(t, "a:b,c[d]e+f-g", "W a@1 M :@1 W b@1 M ,@1 W c@1 M [@1 W d@1 M ]@1 W e@1 M +@1 W f@1 M -@1 W g@1 L@1 E@1")
	checkTold(t, "a.:.b", "W a.@1 M :@1 D .b@1 L@1 E@1")
	checkTold(t, "._ .a..b$ _", "D ._@1 D .a..b$@1 W _@1 L@1 E@1")
	for _, text := range []string{"..a", ".$a", ". a", ".\ta", ".", "a .", "$a", "a $", "(", "a=b", "'", "{", "\x00", "\x0b", "\x0c", "\x7f", "é", ".é"} {
		checkRefused(t, text, 1, api.ErrLexByte)
	}
}

func TestPassedOver(t *testing.T) {
	checkTold(t, " \t\r a \t\r b\r\n", "W a@1 W b@1 L@1 E@1")
	checkTold(t, "a\rb", "W a@1 W b@1 L@1 E@1")
	checkTold(t, "a;b#c\x00\xff\"08\nd#e;1a", "W a@1 L@1 W d@2 L@2 E@2")
	checkTold(t, ";\n#\n;;##", "L@1 L@2 L@3 E@3")
	checkTold(t, "\n\n \n", "L@1 L@2 L@3 E@3")
	checkTold(t, "\n\n ", "L@1 L@2 L@3 E@3")
	checkTold(t, "\r", "L@1 E@1")
}

func TestNumbers(t *testing.T) {
	good := map[string]uint64{
		"0": 0, "1": 1, "9": 9, "10": 10, "1000": 1000, "0x0": 0, "0x00": 0, "0xf": 15, "0xF": 15, "0xaBcDeF": 0xabcdef,
		"0x0000000000000000": 0, "0x0000000000000001": 1, "0xffffffffffffffff": 1<<64 - 1, "0x8000000000000000": 1 << 63,
		"9223372036854775808": 1 << 63, "18446744073709551614": 1<<64 - 2, "18446744073709551615": 1<<64 - 1, "9999999999999999999": 9999999999999999999,
	}
	for text, n := range good {
		checkTold(t, text, "N "+strconv.FormatUint(n, 10)+"@1 L@1 E@1")
		checkTold(t, "-"+text+"+"+text+"]", fmt.Sprintf("M -@1 N %d@1 M +@1 N %d@1 M ]@1 L@1 E@1", n, n))
	}
	for _, text := range []string{
		"00", "01", "000", "0X1", "0x", "0xg", "0xfg", "0x1x", "0x_1", "0x1_0", "1_0", "1_", "0_", "1.", "1.5", "0.", "0x1.", "1$", "0$", "0b1", "0o7", "1e5", "1x", "0a", "00x1", "10x1",
		"0x00000000000000000", "0x10000000000000000", "18446744073709551616", "18446744073709551620", "28446744073709551615", "99999999999999999999", "100000000000000000000", "0x-1",
		"1" + strings.Repeat("0", 1023),
	} {
		checkRefused(t, text, 1, api.ErrLexNumber)
		checkRefused(t, "\n\n"+text, 3, api.ErrLexNumber)
	}
	for n := range 3000 {
		checkText(t, strconv.Itoa(n))
		checkText(t, fmt.Sprintf("%#x %#X 0x%X", n, n, n))
	}
}

func TestNames(t *testing.T) {
	for _, n := range []int{1, 2, 63, 64} {
		name := strings.Repeat("b", n-1)
		for _, first := range []string{"a", "Z", "_"} {
			checkTold(t, first+name, "W "+first+name+"@1 L@1 E@1")
			checkTold(t, "."+first+name, "D ."+first+name+"@1 L@1 E@1")
		}
	}
	for _, n := range []int{65, 66, 200, 1023} {
		for _, c := range []string{"a", "_", "1", ".", "$"} {
			name := "a" + strings.Repeat(c, n-1)
			checkRefused(t, name, 1, api.ErrLexName)
			checkRefused(t, "."+name, 1, api.ErrLexName)
		}
	}
	checkTold(t, strings.Repeat("a", 64)+":"+strings.Repeat("a", 64), "W "+strings.Repeat("a", 64)+"@1 M :@1 W "+strings.Repeat("a", 64)+"@1 L@1 E@1")
}

func TestLongLines(t *testing.T) {
	for _, n := range []int{1022, 1023, 1024, 1025, 1026, 5000} {
		for _, fill := range []string{" ", "\t", "\r", ";", "#", ",", "\"", "a", "1", ";\xff"} {
			line := strings.Repeat(fill, n)[:n]
			for _, form := range []string{"*", "*\n", "*\r\n", "a\n*", "a\n*\nb", "*\n\"", "\"\n*", "*\n*", "\n\n\n*"} {
				checkText(t, strings.ReplaceAll(form, "*", line))
			}
		}
	}
	checkRefused(t, strings.Repeat(" ", 1024)+"\r\n", 1, api.ErrLexLine)
	checkRefused(t, "1a\n"+strings.Repeat(" ", 1025), 1, api.ErrLexNumber)
	checkRefused(t, strings.Repeat(" ", 1025)+"\n1a", 1, api.ErrLexLine)
	checkRefused(t, "\n;"+strings.Repeat("x", 1024)+"\n", 2, api.ErrLexLine)
}

// The leftmost of a line's faults, and the first line's, decides.
func TestFirstFault(t *testing.T) {
	long := strings.Repeat("a", 65)
	faults := map[string]api.Errno{"\"": api.ErrLexByte, ".1": api.ErrLexByte, "1a": api.ErrLexNumber, long: api.ErrLexName, "." + long: api.ErrLexName}
	for first, e := range faults {
		for second := range faults {
			checkRefused(t, "a, "+first+" "+second, 1, e)
			checkRefused(t, "\n:"+first+"\n"+second+"\n", 2, e)
			checkRefused(t, ";"+second+"\n"+first, 2, e)
		}
		checkTold(t, ";"+first, "L@1 E@1")
	}
}

func TestLongTexts(t *testing.T) {
	full := strings.Repeat("\n", maxText)
	checkRefused(t, full+"\n", 0, api.ErrLexLong)
	checkRefused(t, full+"\"", 0, api.ErrLexLong)
	checkRefused(t, "\""+full, 0, api.ErrLexLong)
	checkRefused(t, full[1:]+"\"", maxText, api.ErrLexByte)
	ts, at, e := Tokens([]byte(full))
	if len(ts) != maxText+1 || at != 0 || e != api.OK {
		t.Fatalf("P5.1: Tokens of %d line ends = %d tokens, %d, %d", maxText, len(ts), at, e)
	}
	for k, token := range ts[:maxText] {
		if token != (api.Token{Kind: api.TokenLine, Line: k + 1}) {
			t.Fatalf("P5.1: of %d line ends token %d is %+v", maxText, k, token)
		}
	}
	if ts[maxText] != (api.Token{Kind: api.TokenEnd, Line: maxText}) {
		t.Errorf("P5.1: of %d line ends the last token is %+v", maxText, ts[maxText])
	}
	if text, e := Untoken(ts); text != full || e != api.OK {
		t.Errorf("P5.3: Untoken of %d line ends = %d bytes, %d", maxText, len(text), e)
	}
	ts[0] = num(1)
	checkUntoken(t, ts, "1"+full[1:], api.OK)
	ts[0] = num(12)
	checkUntoken(t, ts, "", api.ErrLexLong)
	ts[maxText] = eol()
	checkUntoken(t, ts, "", api.ErrLexByte)
	ts[maxText] = word("")
	checkUntoken(t, ts, "", api.ErrLexName)
}

// A text of many lines with something on each of them, as long as a text may be.
func TestFullText(t *testing.T) {
	line := "l1: ldxw r1, [r2-8] ; 'no token'\n"
	lines := maxText / len(line)
	text := strings.Repeat(line, lines)
	ts, at, e := Tokens([]byte(text))
	want := list(word("l1"), sign(":"), word("ldxw"), word("r1"), sign(","), sign("["), word("r2"), sign("-"), num(8), sign("]"), eol())
	if len(ts) != lines*len(want)+1 || at != 0 || e != api.OK {
		t.Fatalf("P5.1: Tokens of %d lines = %d tokens, %d, %d", lines, len(ts), at, e)
	}
	for k, token := range ts[:len(ts)-1] {
		w := want[k%len(want)]
		w.Line = k/len(want) + 1
		if token != w {
			t.Fatalf("P5.1: of %d lines token %d is %+v, want %+v", lines, k, token, w)
		}
	}
	checkBack(t, ts)
}

func TestUntokenTokens(t *testing.T) {
	texts := []string{"", "a", "_", "r1", "a.b$1_", "1a", ".", ".a", "..a", ".1", "$", "a b", "a\n", "é", "0", "1", ":", ",", "[", "]", "+", "-", ";", "#", ",,", " ", "\n",
		strings.Repeat("a", 64), strings.Repeat("a", 65), "." + strings.Repeat("a", 64), "." + strings.Repeat("a", 65), "A\xff", "a:", ".a:", "a-"}
	for kind := -3; kind < 12; kind++ {
		for _, text := range texts {
			for _, n := range []uint64{0, 1, 1 << 63, 1<<64 - 1} {
				token := api.Token{Kind: kind, Text: text, Number: n, Line: 77}
				checkList(t, list(token))
				checkList(t, list(token, eol(), end()))
				checkList(t, list(word("a"), token, eol(), end()))
				checkList(t, list(eol(), token))
				checkList(t, list(token, end()))
				checkList(t, list(token, word("1"), end()))
			}
		}
	}
	for _, kind := range []int{-1 << 63, 1<<63 - 1, 256, 257, 1<<32 + 1} {
		checkUntoken(t, list(api.Token{Kind: kind, Text: "a"}, eol(), end()), "", api.ErrLexByte)
	}
}

func TestUntokenEnds(t *testing.T) {
	checkUntoken(t, list(), "", api.ErrLexByte)
	checkUntoken(t, list(eol()), "", api.ErrLexByte)
	checkUntoken(t, list(eol(), end()), "\n", api.OK)
	checkUntoken(t, list(word("a"), eol()), "", api.ErrLexByte)
	checkUntoken(t, list(end(), eol()), "", api.ErrLexByte)
	checkUntoken(t, list(end(), word("1")), "", api.ErrLexByte)
	checkUntoken(t, list(eol(), end(), end()), "", api.ErrLexByte)
	checkUntoken(t, list(num(1), end()), "", api.ErrLexByte)
	checkUntoken(t, list(word("a"), eol(), word("b"), end()), "", api.ErrLexByte)
	checkUntoken(t, list(word("a"), word("1"), end(), end()), "", api.ErrLexName)
	checkUntoken(t, list(api.Token{Kind: api.TokenWord, Text: "1", Number: 1}), "", api.ErrLexName)
	checkUntoken(t, list(api.Token{Kind: api.TokenDot, Text: "a", Number: 1}), "", api.ErrLexName)
	checkUntoken(t, list(api.Token{Kind: api.TokenDot, Text: ".a", Number: 1}, eol(), end()), "", api.ErrLexByte)
}

func TestUntokenLines(t *testing.T) {
	for _, n := range []int{511, 512, 513, 600} {
		marks := slices.Repeat(list(sign("+")), n)
		for _, last := range []api.Token{word("a"), dot(".a"), num(0), num(1 << 63), sign("-"), word("ab"), word("abc")} {
			line := append(slices.Clone(marks), last, eol())
			checkList(t, append(slices.Clone(line), end()))
			checkList(t, slices.Concat(list(eol()), line, list(end())))
			checkList(t, slices.Concat(line, list(word("1"))))
			checkList(t, slices.Concat(line[:n+1], list(end())))
			checkList(t, slices.Concat(line[:n+1], list(word("1"), eol(), end())))
			checkList(t, slices.Concat(line[:n+1], list(api.Token{Kind: api.TokenLine, Number: 1}, end())))
		}
	}
	full := append(slices.Repeat(list(sign("+")), 511), dot(".a"))
	checkUntoken(t, append(slices.Clone(full), eol(), end()), strings.Repeat("+ ", 511)+".a\n", api.OK)
	full[0] = word("ab")
	checkUntoken(t, append(slices.Clone(full), eol(), end()), "", api.ErrLexLine)
}

// Lists whose text is as long as a text may be, and one byte longer: by each kind of token.
func TestUntokenLong(t *testing.T) {
	line := append(slices.Repeat(list(word(strings.Repeat("a", 64))), 15), eol())
	size := 15*65 - 1 + 1
	lines := slices.Repeat(line, maxText/size)
	left := maxText % size
	for _, last := range []api.Token{word("a"), dot(".a"), num(7), sign(":")} {
		piece := len(tokenText(last))
		fill := func(n int) []api.Token {
			return slices.Concat(lines, slices.Repeat(list(eol()), n-piece-1), list(last, eol(), end()))
		}
		if text, e := Untoken(fill(left)); len(text) != maxText || e != api.OK {
			t.Errorf("P5.2: Untoken of a text of %d bytes = %d bytes, %d", maxText, len(text), e)
		}
		checkUntoken(t, fill(left+1), "", api.ErrLexLong)
		checkUntoken(t, append(fill(left+1), end()), "", api.ErrLexByte)
		long := fill(left + 1)
		checkUntoken(t, long[:len(long)-1], "", api.ErrLexByte)
		checkUntoken(t, slices.Concat(long[:len(long)-1], long[:20], list(api.Token{Kind: api.TokenNumber, Text: "1"})), "", api.ErrLexNumber)
	}
	checkUntoken(t, slices.Concat(lines, lines, slices.Repeat(list(sign("-")), 513), list(eol())), "", api.ErrLexLine)
	checkUntoken(t, append(slices.Repeat(list(word(strings.Repeat("a", 64))), maxText/32), end()), "", api.ErrLexByte)
}

// randomToken gives a token that may be, now and then one that may not.
func randomToken(r *rand.Rand, wrong bool) api.Token {
	if wrong && r.Intn(40) == 0 {
		return api.Token{Kind: r.Intn(8) - 1, Text: []string{"", "a", ".a", ",", "1", ";"}[r.Intn(6)], Number: uint64(r.Intn(2)), Line: r.Intn(9)}
	}
	const inWords = "abcXYZ_019.$"
	name := []byte{"az_AZ"[r.Intn(5)]}
	for range r.Intn(8) {
		name = append(name, inWords[r.Intn(len(inWords))])
	}
	all := list(word(string(name)), dot("."+string(name)), num(r.Uint64()>>r.Intn(64)), sign(string(":,[]+-"[r.Intn(6)])), eol(), eol())
	token := all[r.Intn(len(all))]
	token.Line = r.Intn(100) - 50
	return token
}

func TestThereAndBack(t *testing.T) {
	r := rand.New(rand.NewSource(5))
	for round := range 20000 {
		var ts []api.Token
		for range r.Intn(30) {
			ts = append(ts, randomToken(r, round%2 == 0))
		}
		if r.Intn(8) > 0 {
			ts = append(ts, eol())
		}
		if r.Intn(8) > 0 {
			ts = append(ts, end())
		}
		checkList(t, ts)
	}
	pieces := []string{"a", "r10", ".func", "_", "$", ".", "0", "0x1f", "7", "08", "18446744073709551615", ":", ",", "[", "]", "+", "-", " ", " ", "\t", "\r", "\n", "\n", ";x\n", "#\xff\n", "\""}
	for range 20000 {
		var text strings.Builder
		for range r.Intn(20) {
			text.WriteString(pieces[r.Intn(len(pieces))])
		}
		checkText(t, text.String())
	}
}

// A text that Tokens takes and whose tokens make a longer one.
func TestLongerBack(t *testing.T) {
	for _, text := range []string{strings.Repeat(",", 512), strings.Repeat(",", 513), strings.Repeat("0xffffffffffffffff,", 48), strings.Repeat("0xffffffffffffffff ", 48)} {
		checkText(t, text)
	}
	ts, _, _ := Tokens([]byte(strings.Repeat(strings.Repeat(",", 512)+"\n", maxText/513)))
	if text, e := Untoken(ts); text != "" || e != api.ErrLexLong {
		t.Errorf("P5.3: Untoken of the tokens of 16 MB = %d bytes, %d, want none, ErrLexLong", len(text), e)
	}
	ts, _, _ = Tokens([]byte(strings.Repeat(",", 513)))
	checkUntoken(t, ts, "", api.ErrLexLine)
}

// A line's tokens, or its fault, are the same alone and among any others.
func TestLineAlone(t *testing.T) {
	lines := []string{"", " ", "a", "a:", ".func f", ".", "1a", "08", ";\"", "mov r1, 2", "\"", strings.Repeat("a", 65), strings.Repeat(" ", 1025), strings.Repeat("a ", 512), "\r", "0x", "-1"}
	for _, ahead := range []string{"", "a\n", "\n\n", ".x 1 ; y\n", "0\n", ";\n"} {
		for _, line := range lines {
			for _, behind := range []string{"", "a", "\"", "1a\n\n"} {
				checkAlone(t, ahead, line, behind)
			}
		}
	}
}

func checkAlone(t *testing.T, ahead, line, behind string) {
	t.Helper()
	first := strings.Count(ahead, "\n")
	alone, at, e := Tokens([]byte(line + "\n"))
	ts, at2, e2 := Tokens([]byte(ahead + line + "\n" + behind))
	if e != api.OK {
		if e2 != e || at != 1 || at2 != first+1 {
			t.Errorf("P5.4: %.40q is wrong by %d, line %d; behind %q by %d, line %d", line, e, at, ahead, e2, at2)
		}
		return
	}
	if e2 != api.OK {
		if at2 != first+2 {
			t.Errorf("P5.4: between %q and %q the fault is in line %d", ahead, behind, at2)
		}
		return
	}
	var here []api.Token
	for _, token := range ts {
		if token.Line == first+1 && token.Kind != api.TokenEnd {
			token.Line = 1
			here = append(here, token)
		}
	}
	if !slices.Equal(here, alone[:len(alone)-1]) {
		t.Errorf("P5.4: %q has the tokens %s; behind %q %s", line, told(alone), ahead, told(here))
	}
}

// R1: nil and empty are one.
func TestNothing(t *testing.T) {
	for _, text := range [][]byte{nil, {}, []byte("a")[:0]} {
		if ts, at, e := Tokens(text); told(ts) != "E@0" || at != 0 || e != api.OK {
			t.Errorf("P5.1, R1: Tokens(nothing) = %s, %d, %d", told(ts), at, e)
		}
	}
}

// R4: what is handed in stays, and what is handed out is new.
func TestMemory(t *testing.T) {
	room := []byte("ab: mov r1, 22\n.c \"\xff\n")
	before := slices.Clone(room)
	text := room[:18]
	ts, _, e := Tokens(text)
	again, _, _ := Tokens(text)
	want := "W ab@1 M :@1 W mov@1 W r1@1 M ,@1 N 22@1 L@1 D .c@2 L@2 E@2"
	if e != api.OK || told(ts) != want || !slices.Equal(room, before) {
		t.Errorf("R4: Tokens = %s, %d; its text is then %q", told(ts), e, room)
	}
	for k := range room {
		room[k] = 'z'
	}
	if told(ts) != want {
		t.Errorf("R4: tokens turn with the text: %s", told(ts))
	}
	for k := range ts {
		ts[k] = num(9)
	}
	if told(again) != want {
		t.Errorf("R4: two answers share memory: %s", told(again))
	}
	kept := slices.Clone(again)
	spare := append(again, word("x"))[:len(again)]
	out, _ := Untoken(spare)
	if out != "ab : mov r1 , 22\n.c\n" || !slices.Equal(again, kept) || spare[:len(spare)+1][len(spare)] != word("x") {
		t.Errorf("R4: Untoken = %q; its tokens are then %s", out, told(spare))
	}
	ts, at, e := Tokens([]byte("a 1\n2 3\n\""))
	if ts != nil && len(ts) > 0 || at != 3 || e != api.ErrLexByte {
		t.Errorf("R2: beside an error stand %s, line %d", told(ts), at)
	}
}
