package line

import (
	"strings"

	"spindle/api"
	"spindle/word"
)

const blanks = " \t"

// reader reads a line token by token. It goes on behind what is wrong, for there are few operands, and a wrong one is told ahead of a number that is out of its range.
type reader struct {
	rest  string
	token string

	insn    api.Insn
	target  string
	wrong   bool
	outside bool
}

// newReader gives a reader that stands at the first token.
func newReader(text string) *reader {
	r := &reader{rest: text}
	r.next()
	return r
}

// next goes on to the next token: a word, a number, a single other byte, or nothing at the text's end. A byte that belongs to no token is handed on as it is, for nothing takes it.
func (r *reader) next() {
	r.rest = strings.TrimLeft(r.rest, blanks)
	n := runSize(r.rest)
	if n == 0 && r.rest != "" {
		n = 1
	}
	r.token, r.rest = r.rest[:n], r.rest[n:]
}

// operands reads what stands behind the mnemonic, up to the text's end.
func (r *reader) operands() {
	for k, o := range operandsOf(r.insn) {
		if o == noOperand {
			break
		}
		if k > 0 {
			r.mark(",")
		}
		r.operand(o)
	}
	r.wrong = r.wrong || r.token != ""
}

func (r *reader) operand(o operand) {
	switch o {
	case toDst:
		r.insn.Dst = r.register()
	case toSrc:
		r.insn.Src = r.register()
	case toImm:
		r.imm()
	case toSrcOrImm:
		r.sourceOrImm()
	case placeOfSrc:
		r.insn.Src, r.insn.Off = r.place()
	case placeOfDst:
		r.insn.Dst, r.insn.Off = r.place()
	case toTarget:
		r.name()
	case toImmOrTarget:
		r.helperOrFunction()
	}
}

func (r *reader) sourceOrImm() {
	if !startsWord(r.token) {
		r.imm()
		return
	}
	r.insn.Op |= sourceBit
	r.insn.Src = r.register()
}

func (r *reader) helperOrFunction() {
	if !startsWord(r.token) {
		r.imm()
		return
	}
	r.insn.Src, r.insn.Imm = srcNamed, immUnnamedCall
	r.name()
}

// imm reads a signed number as wide as the instruction's Imm.
func (r *reader) imm() {
	below := r.skip("-")
	if !below {
		r.skip("+")
	}
	width := 32
	if r.insn.Op == opWide {
		width = 64
	}
	r.insn.Imm = r.number(below, width, 1<<width-1)
}

// place reads a register and an offset in brackets.
func (r *reader) place() (register, off int) {
	r.mark("[")
	register = r.register()
	below := r.skip("-")
	if !below {
		r.mark("+")
	}
	off = r.number(below, 16, 1<<15-1)
	r.mark("]")
	return register, off
}

// number reads a number without a sign and gives it, or what it is below 0, as a number of that width; high is the greatest that may stand there.
func (r *reader) number(below bool, width int, high uint64) int {
	n, huge, ok := valueOf(r.token)
	r.wrong = r.wrong || !ok
	r.next()
	limit := high
	if below {
		limit = 1 << (width - 1)
	}
	if huge || n > limit {
		r.outside = true
	}
	if below {
		n = word.Neg(n)
	}
	return int(word.Sign(n, width))
}

func (r *reader) register() int {
	for number, register := range registers {
		if r.token == register {
			r.next()
			return number
		}
	}
	r.wrong = true
	return 0
}

// name reads the target. It is kept apart from the line, which may be much longer.
func (r *reader) name() {
	r.wrong = r.wrong || !isName(r.token)
	r.target = strings.Clone(r.token)
	r.next()
}

// mark reads a mark that must stand there.
func (r *reader) mark(mark string) {
	if !r.skip(mark) {
		r.wrong = true
	}
}

// skip passes over a mark, and tells whether it stood there.
func (r *reader) skip(mark string) bool {
	if r.token != mark {
		return false
	}
	r.next()
	return true
}
