package parse

import (
	"fmt"
	"math/big"
	"regexp"
	"slices"
	"strings"

	"spindle/api"
	"spindle/lex"
	"spindle/line"
)

// Here texts and statements are read a second time, by the chapter's words: a line's tokens are written with one blank between each two, and what stands there is told by regular expressions.

const (
	nameShape   = `[A-Za-z_][A-Za-z0-9_.$]{0,63}`
	numberShape = `[0-9]+`
)

var (
	labelFirst  = regexp.MustCompile(`^(` + nameShape + `) :(?: |$)`)
	wordFirst   = regexp.MustCompile(`^(` + nameShape + `)(?: |$)`)
	namedShape  = regexp.MustCompile(`^\.(func|global|extern) (` + nameShape + `)( .*)?$`)
	tableShape  = regexp.MustCompile(`^\.map (` + nameShape + `) (array|hash) (` + numberShape + `) (` + numberShape + `) (` + numberShape + `)( .*)?$`)
	wholeName   = regexp.MustCompile(`^` + nameShape + `$`)
	namedKinds  = map[string]int{"func": api.StmtFunc, "global": api.StmtGlobal, "extern": api.StmtExtern}
	namedWords  = map[int]string{api.StmtLabel: "%s:", api.StmtFunc: ".func %s", api.StmtGlobal: ".global %s", api.StmtExtern: ".extern %s"}
	mostInTable = big.NewInt(2147483647)
)

// readStatements gives what Statements is to answer.
func readStatements(text string) ([]api.Statement, int, api.Errno) {
	if len(text) > 16777216 {
		return nil, 0, api.ErrLexLong
	}
	var list []api.Statement
	lines := strings.Split(text, "\n")
	if lines[len(lines)-1] == "" {
		lines = lines[:len(lines)-1]
	}
	for k, text := range lines {
		ts, _, e := lex.Tokens([]byte(text))
		if e != api.OK {
			return nil, k + 1, e
		}
		ss, e := readLine(spaced(ts))
		if e != api.OK {
			return nil, k + 1, e
		}
		for _, s := range ss {
			s.Line = k + 1
			list = append(list, s)
		}
	}
	return list, 0, api.OK
}

// spaced gives a line's tokens with one blank between each two.
func spaced(ts []api.Token) string {
	var parts []string
	for _, t := range ts {
		switch t.Kind {
		case api.TokenNumber:
			parts = append(parts, fmt.Sprint(t.Number))
		case api.TokenWord, api.TokenDot, api.TokenMark:
			parts = append(parts, t.Text)
		}
	}
	return strings.Join(parts, " ")
}

func readLine(text string) (ss []api.Statement, e api.Errno) {
	for m := labelFirst.FindStringSubmatch(text); m != nil; m = labelFirst.FindStringSubmatch(text) {
		ss = append(ss, api.Statement{Kind: api.StmtLabel, Name: m[1]})
		text = text[len(m[0]):]
	}
	if text == "" {
		return ss, api.OK
	}
	s, e := readRest(text)
	return append(ss, s), e
}

// readRest reads what stands behind the labels.
func readRest(text string) (api.Statement, api.Errno) {
	if m := wordFirst.FindStringSubmatch(text); m != nil && slices.Contains(line.Words(), m[1]) {
		insn, target, e := line.Parse(text)
		return api.Statement{Kind: api.StmtInsn, Insn: insn, Target: target}, e
	}
	if m := namedShape.FindStringSubmatch(text); m != nil {
		return api.Statement{Kind: namedKinds[m[1]], Name: m[2]}, endError(m[3])
	}
	m := tableShape.FindStringSubmatch(text)
	if m == nil {
		return api.Statement{}, api.ErrParseToken
	}
	s := api.Statement{Kind: api.StmtMap, Name: m[1], Words: m[2:3]}
	for _, digits := range m[3:6] {
		n, _ := new(big.Int).SetString(digits, 10)
		if n.Cmp(mostInTable) > 0 {
			return api.Statement{}, api.ErrParseToken
		}
		s.Numbers = append(s.Numbers, int(n.Int64()))
	}
	return s, endError(m[6])
}

func endError(behind string) api.Errno {
	if behind != "" {
		return api.ErrParseEnd
	}
	return api.OK
}

// readPrint gives what Print is to answer, of texts that are not too long.
func readPrint(ss []api.Statement) (string, api.Errno) {
	text := ""
	for _, s := range ss {
		one, e := readStatement(s)
		if e != api.OK {
			return "", e
		}
		text += one + "\n"
	}
	return text, api.OK
}

// readStatement takes the fields that a kind uses out of a statement, and looks whether something is left.
func readStatement(s api.Statement) (string, api.Errno) {
	rest := s
	rest.Kind, rest.Line = 0, 0
	if s.Kind == api.StmtInsn {
		rest.Insn, rest.Target = api.Insn{}, ""
		if !isZero(rest) {
			return "", api.ErrParseToken
		}
		return line.Print(s.Insn, s.Target)
	}
	rest.Name = ""
	text := ""
	if form, known := namedWords[s.Kind]; known {
		text = fmt.Sprintf(form, s.Name)
	} else if s.Kind == api.StmtMap && len(s.Words) == 1 && len(s.Numbers) == 3 {
		rest.Words, rest.Numbers = nil, nil
		text = fmt.Sprintf(".map %s %s %d %d %d", s.Name, s.Words[0], s.Numbers[0], s.Numbers[1], s.Numbers[2])
		if !slices.Contains([]string{"array", "hash"}, s.Words[0]) || slices.Min(s.Numbers) < 0 || slices.Max(s.Numbers) > 2147483647 {
			return "", api.ErrParseToken
		}
	}
	if text == "" || !isZero(rest) || !wholeName.MatchString(s.Name) {
		return "", api.ErrParseToken
	}
	return text, api.OK
}

func isZero(s api.Statement) bool {
	return same(s, api.Statement{})
}

// same tells whether two statements are one; nil and empty lists are one too.
func same(a, b api.Statement) bool {
	return a.Kind == b.Kind && a.Name == b.Name && slices.Equal(a.Words, b.Words) && slices.Equal(a.Numbers, b.Numbers) &&
		a.Insn == b.Insn && a.Target == b.Target && a.Line == b.Line
}
