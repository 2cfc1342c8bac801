package line

import (
	"fmt"
	"math/big"
	"regexp"
	"strings"

	"spindle/api"
)

// form is one way to write an instruction, written down anew for the tests: a mnemonic, what stands behind it, and the fields that are the same of all such instructions.
//
// The operands: D and S a register in Dst, Src; I and L a number of 32 and 64 bits in Imm; P and Q a place of Src, Dst and Off; O, J and C a target in the place of Off, of Imm, of the Imm of a call.
type form struct {
	word     string
	operands string
	base     api.Insn
}

func in(op, dst, src, off, imm int) api.Insn {
	return api.Insn{Op: op, Dst: dst, Src: src, Off: off, Imm: imm}
}

// forms gives all ways to write an instruction.
func forms() []form {
	var list []form
	add := func(word, operands string, op, src, off, imm int) {
		list = append(list, form{word, operands, in(op, 0, src, off, imm)})
	}
	both := func(word, behind string, op, off int) {
		add(word, "DI"+behind, op, 0, off, 0)
		add(word, "DS"+behind, op+8, 0, off, 0)
	}
	for k, word := range strings.Fields("add sub mul div or and lsh rsh - mod xor mov arsh") {
		if word != "-" {
			both(word, "", 0x07+0x10*k, 0)
			both(word+"32", "", 0x04+0x10*k, 0)
		}
	}
	both("sdiv", "", 0x37, 1)
	both("smod", "", 0x97, 1)
	both("sdiv32", "", 0x34, 1)
	both("smod32", "", 0x94, 1)
	for _, n := range []int{8, 16, 32} {
		add(fmt.Sprintf("movs%d", n), "DS", 0xbf, 0, n, 0)
		if n < 32 {
			add(fmt.Sprintf("movs%dw", n), "DS", 0xbc, 0, n, 0)
		}
	}
	add("neg", "D", 0x87, 0, 0, 0)
	add("neg32", "D", 0x84, 0, 0, 0)
	for _, n := range []int{16, 32, 64} {
		add(fmt.Sprintf("le%d", n), "D", 0xd4, 0, 0, n)
		add(fmt.Sprintf("be%d", n), "D", 0xdc, 0, 0, n)
		add(fmt.Sprintf("swap%d", n), "D", 0xd7, 0, 0, n)
	}
	for k, size := range []string{"w", "h", "b", "dw"} {
		add("ldx"+size, "DP", 0x61+8*k, 0, 0, 0)
		add("st"+size, "QI", 0x62+8*k, 0, 0, 0)
		add("stx"+size, "QS", 0x63+8*k, 0, 0, 0)
		if size != "dw" {
			add("ldxs"+size, "DP", 0x81+8*k, 0, 0, 0)
		}
	}
	imms := []int{0x00, 0x40, 0x50, 0xa0, 0x01, 0x41, 0x51, 0xa1, 0xe1, 0xf1}
	for k, word := range strings.Fields("aadd aor aand axor afadd afor afand afxor axchg acmpxchg") {
		add(word, "QS", 0xdb, 0, 0, imms[k])
		add(word+"32", "QS", 0xc3, 0, 0, imms[k])
	}
	add("ja", "O", 0x05, 0, 0, 0)
	add("ja32", "J", 0x06, 0, 0, 0)
	for k, word := range strings.Fields("- jeq jgt jge jset jne jsgt jsge - - jlt jle jslt jsle") {
		if word != "-" {
			both(word, "O", 0x05+0x10*k, 0)
			both(word+"32", "O", 0x06+0x10*k, 0)
		}
	}
	add("call", "I", 0x85, 0, 0, 0)
	add("call", "C", 0x85, 1, 0, -1)
	add("exit", "", 0x95, 0, 0, 0)
	add("lddw", "DL", 0x18, 0, 0, 0)
	add("ldmap", "DJ", 0x18, 1, 0, 0)
	return list
}

// has tells whether the form writes an instruction that may be, whatever stands in the place of a target.
func (f form) has(i api.Insn) bool {
	return i.Op == f.base.Op &&
		(i.Dst == f.base.Dst || strings.ContainsAny(f.operands, "DQ")) &&
		(i.Src == f.base.Src || strings.ContainsAny(f.operands, "SP")) &&
		(i.Off == f.base.Off || strings.ContainsAny(f.operands, "PQO")) &&
		(i.Imm == f.base.Imm || strings.ContainsAny(f.operands, "ILJC"))
}

func (f form) hasTarget() bool {
	return strings.ContainsAny(f.operands, "OJC")
}

// free tells whether the field in whose place the target stands is as it must be.
func (f form) free(i api.Insn) bool {
	switch {
	case strings.Contains(f.operands, "O"):
		return i.Off == 0
	case strings.Contains(f.operands, "J"):
		return i.Imm == 0
	case strings.Contains(f.operands, "C"):
		return i.Imm == -1
	}
	return true
}

// line writes an instruction of the form by the chapter's words.
func (f form) line(i api.Insn, target string) string {
	var list []string
	for _, o := range f.operands {
		switch o {
		case 'D':
			list = append(list, fmt.Sprintf("r%d", i.Dst))
		case 'S':
			list = append(list, fmt.Sprintf("r%d", i.Src))
		case 'I', 'L':
			list = append(list, fmt.Sprintf("%d", i.Imm))
		case 'P':
			list = append(list, fmt.Sprintf("[r%d%+d]", i.Src, i.Off))
		case 'Q':
			list = append(list, fmt.Sprintf("[r%d%+d]", i.Dst, i.Off))
		default:
			list = append(list, target)
		}
	}
	return strings.TrimRight(f.word+" "+strings.Join(list, ", "), " ")
}

var (
	tokenShape = regexp.MustCompile(`^[ \t]*([A-Za-z_][A-Za-z0-9_.$]*|[0-9][A-Za-z0-9_.$]*|[][,+-])`)
	nameShape  = regexp.MustCompile(`^[A-Za-z_][A-Za-z0-9_.$]{0,63}$`)
)

const (
	registerShape = `r(10|[0-9])`
	plainShape    = `(0|[1-9][0-9]*|0x[0-9a-fA-F]{1,16})`
	signedShape   = `([+-]?) ?` + plainShape
	placeShape    = `\[ ` + registerShape + ` ([+-]) ` + plainShape + ` \]`
	targetShape   = `([A-Za-z_][A-Za-z0-9_.$]{0,63})`
)

// shape gives what the tokens behind the mnemonic look like, with a blank between each two.
func (f form) shape() *regexp.Regexp {
	var list []string
	for _, o := range f.operands {
		switch o {
		case 'D', 'S':
			list = append(list, registerShape)
		case 'I', 'L':
			list = append(list, signedShape)
		case 'P', 'Q':
			list = append(list, placeShape)
		default:
			list = append(list, targetShape)
		}
	}
	return regexp.MustCompile("^" + strings.Join(list, " , ") + "$")
}

// known is a form with its shape, kept for its word.
type known struct {
	form
	shape *regexp.Regexp
}

// grammar reads lines by the chapter's words.
type grammar map[string][]known

func newGrammar() grammar {
	g := grammar{}
	for _, f := range forms() {
		g[f.word] = append(g[f.word], known{f, f.shape()})
	}
	return g
}

// cut gives a line's tokens, and whether nothing else stands in it.
func cut(text string) (tokens []string, clean bool) {
	for {
		m := tokenShape.FindStringSubmatch(text)
		if m == nil {
			return tokens, strings.Trim(text, " \t") == ""
		}
		tokens = append(tokens, m[1])
		text = text[len(m[0]):]
	}
}

// parse gives what Parse is to answer.
func (g grammar) parse(text string) (api.Insn, string, api.Errno) {
	tokens, clean := cut(text)
	if len(tokens) == 0 || g[tokens[0]] == nil {
		return api.Insn{}, "", api.ErrLineForm
	}
	if !clean {
		return api.Insn{}, "", api.ErrLineOperand
	}
	for _, k := range g[tokens[0]] {
		if m := k.shape.FindStringSubmatch(strings.Join(tokens[1:], " ")); m != nil {
			return k.fill(m[1:])
		}
	}
	return api.Insn{}, "", api.ErrLineOperand
}

// fill lays what was found into the form's instruction.
func (f form) fill(found []string) (api.Insn, string, api.Errno) {
	i, target, e := f.base, "", api.OK
	take := func() string {
		s := found[0]
		found = found[1:]
		return s
	}
	number := func(low, high *big.Int, width uint) int {
		sign, text := take(), take()
		n, _ := new(big.Int).SetString(strings.TrimPrefix(text, "0x"), map[bool]int{true: 16, false: 10}[strings.HasPrefix(text, "0x")])
		if sign == "-" {
			n.Neg(n)
		}
		if n.Cmp(low) < 0 || n.Cmp(high) > 0 {
			e = api.ErrLineNumber
			return 0
		}
		if n.Cmp(power(width-1)) >= 0 {
			n.Sub(n, power(width))
		}
		return int(n.Int64())
	}
	for _, o := range f.operands {
		switch o {
		case 'D', 'Q':
			fmt.Sscan(take(), &i.Dst)
		case 'S', 'P':
			fmt.Sscan(take(), &i.Src)
		case 'I':
			i.Imm = number(negative(31), less(power(32)), 32)
		case 'L':
			i.Imm = number(negative(63), less(power(64)), 64)
		default:
			target = take()
		}
		if o == 'P' || o == 'Q' {
			i.Off = number(negative(15), less(power(15)), 16)
		}
	}
	if e != api.OK {
		return api.Insn{}, "", e
	}
	return i, target, api.OK
}

func power(bits uint) *big.Int    { return new(big.Int).Lsh(big.NewInt(1), bits) }
func negative(bits uint) *big.Int { return new(big.Int).Neg(power(bits)) }
func less(n *big.Int) *big.Int    { return new(big.Int).Sub(n, big.NewInt(1)) }
