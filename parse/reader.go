package parse

import (
	"strconv"
	"strings"

	"spindle/api"
	"spindle/line"
)

// reader reads tokens from the front, and keeps the statements that they make. Behind each line's tokens stands its TokenLine, which only the end of the line is passed by: so there is always a token to be looked at, and it tells the line.
//
// Its methods give up by panic, with what is wrong, where a token is not as it must be.
type reader struct {
	tokens     []api.Token
	directives map[string]func(*reader) api.Statement
	statements []api.Statement
}

// read gives the statements of a text's tokens, or the line in which something is wrong and what.
func read(ts []api.Token) (ss []api.Statement, at int, e api.Errno) {
	r := reader{tokens: ts, directives: directives(), statements: make([]api.Statement, 0, statementCount(ts))}
	defer func() {
		if wrong := recover(); wrong != nil {
			ss, at, e = nil, r.tokens[0].Line, wrong.(api.Errno)
		}
	}()
	for r.tokens[0].Kind != api.TokenEnd {
		r.line()
	}
	return r.statements, 0, api.OK
}

// statementCount gives how many statements tokens make in which nothing is wrong: each ends with a colon or with its line. A list of millions of them that grew step by step would take up several times its room.
func statementCount(ts []api.Token) int {
	count, open := 0, 0
	for _, t := range ts {
		switch {
		case isColon(t):
			count, open = count+1, 0
		case t.Kind == api.TokenLine:
			count, open = count+open, 0
		default:
			open = 1
		}
	}
	return count
}

// line reads one line: its labels, and the statement behind them, if there is one.
func (r *reader) line() {
	for r.atLabel() {
		r.add(api.Statement{Kind: api.StmtLabel, Name: r.word()})
		r.take(api.TokenMark)
	}
	switch r.tokens[0].Kind {
	case api.TokenLine:
	case api.TokenWord:
		r.add(r.instruction())
	default:
		r.add(r.directive())
	}
	r.take(api.TokenLine)
}

func (r *reader) add(s api.Statement) {
	s.Line = r.tokens[0].Line
	r.statements = append(r.statements, s)
}

func (r *reader) atLabel() bool {
	return r.tokens[0].Kind == api.TokenWord && isColon(r.tokens[1])
}

// directive reads a directive, up to its line's end.
func (r *reader) directive() api.Statement {
	rest, known := r.directives[r.take(api.TokenDot).Text]
	if !known {
		panic(api.ErrParseToken)
	}
	s := rest(r)
	if r.tokens[0].Kind != api.TokenLine {
		panic(api.ErrParseEnd)
	}
	return s
}

// directives gives, of each directive's word, what reads the rest.
func directives() map[string]func(*reader) api.Statement {
	return map[string]func(*reader) api.Statement{
		wordFunc:   named(api.StmtFunc),
		wordGlobal: named(api.StmtGlobal),
		wordExtern: named(api.StmtExtern),
		wordMap:    (*reader).table,
	}
}

// named gives what reads a statement of that kind that is a name alone.
func named(kind int) func(*reader) api.Statement {
	return func(r *reader) api.Statement {
		return api.Statement{Kind: kind, Name: r.word()}
	}
}

func (r *reader) table() api.Statement {
	s := api.Statement{Kind: api.StmtMap, Name: r.word()}
	s.Words = []string{r.tableKind()}
	s.Numbers = make([]int, numberCount)
	for k := range s.Numbers {
		s.Numbers[k] = r.number()
	}
	return s
}

// instruction reads an instruction, up to its line's end.
func (r *reader) instruction() api.Statement {
	insn, target, e := line.Parse(r.instructionText())
	switch e {
	case api.OK:
		return api.Statement{Kind: api.StmtInsn, Insn: insn, Target: target}
	case api.ErrLineForm:
		// The word is no mnemonic: that is this layer's to tell.
		panic(api.ErrParseToken)
	}
	panic(e)
}

// instructionText takes up the tokens that are left of a line, and gives them with a blank between each two.
func (r *reader) instructionText() string {
	var b strings.Builder
	for r.tokens[0].Kind != api.TokenLine {
		if b.Len() > 0 {
			b.WriteByte(' ')
		}
		b.WriteString(r.tokenText())
	}
	return b.String()
}

func (r *reader) tokenText() string {
	t := r.take(r.tokens[0].Kind)
	if t.Kind == api.TokenNumber {
		return strconv.FormatUint(t.Number, 10)
	}
	return t.Text
}

func (r *reader) word() string {
	return r.take(api.TokenWord).Text
}

func (r *reader) tableKind() string {
	word := r.word()
	if !isTableKind(word) {
		panic(api.ErrParseToken)
	}
	return word
}

func (r *reader) number() int {
	n := r.take(api.TokenNumber).Number
	if n > maxNumber {
		panic(api.ErrParseToken)
	}
	return int(n)
}

// take takes up the next token, which must be of that kind.
func (r *reader) take(kind int) api.Token {
	t := r.tokens[0]
	if t.Kind != kind {
		panic(api.ErrParseToken)
	}
	r.tokens = r.tokens[1:]
	return t
}
