package lex

import (
	"bytes"
	"strconv"
	"strings"

	"spindle/api"
)

// scanner goes through a text line by line. It holds its place: the lines that are still to come, the line that is read, and the byte of it at which the next token is looked for. It counts the tokens, and keeps them if it is told to.
type scanner struct {
	rest   []byte
	line   string
	number int
	at     int

	count  int
	keeps  bool
	tokens []api.Token
}

// lines takes up all tokens of the text, or gives what is wrong in the line that it then stands at.
func (s *scanner) lines() api.Errno {
	for len(s.rest) > 0 {
		if e := s.nextLine(); e != api.OK {
			return e
		}
	}
	s.add(api.TokenEnd, "", 0)
	return api.OK
}

// nextLine takes up the tokens of the next line. They share one copy of it: so a token keeps no more of the text alive than its line.
func (s *scanner) nextLine() api.Errno {
	line, rest, _ := bytes.Cut(s.rest, []byte{'\n'})
	s.rest = rest
	s.number++
	if len(line) > api.MaxLine {
		return api.ErrLexLine
	}
	s.line, s.at = string(line), 0
	for s.at < len(s.line) {
		if e := s.next(); e != api.OK {
			return e
		}
	}
	s.add(api.TokenLine, "", 0)
	return api.OK
}

// next takes up the token that begins at the place, or passes over what is none.
func (s *scanner) next() api.Errno {
	switch kindOf(s.line[s.at]) {
	case blank:
		s.at++
		return api.OK
	case remark:
		s.at = len(s.line)
		return api.OK
	case letter:
		return s.word()
	case point:
		return s.dot()
	case digit:
		return s.numeral()
	case mark:
		return s.mark()
	}
	return api.ErrLexByte
}

func (s *scanner) word() api.Errno {
	run := s.run()
	if len(run) > api.MaxName {
		return api.ErrLexName
	}
	s.add(api.TokenWord, run, 0)
	return api.OK
}

func (s *scanner) dot() api.Errno {
	if !startsWord(s.line[s.at+1:]) {
		return api.ErrLexByte
	}
	run := s.run()
	if len(run) > 1+api.MaxName {
		return api.ErrLexName
	}
	s.add(api.TokenDot, run, 0)
	return api.OK
}

func (s *scanner) numeral() api.Errno {
	n, ok := valueOf(s.run())
	if !ok {
		return api.ErrLexNumber
	}
	s.add(api.TokenNumber, "", n)
	return api.OK
}

func (s *scanner) mark() api.Errno {
	s.add(api.TokenMark, s.line[s.at:s.at+1], 0)
	s.at++
	return api.OK
}

// run passes over the run that begins at the place, and gives it.
func (s *scanner) run() string {
	n := runSize(s.line[s.at:])
	run := s.line[s.at : s.at+n]
	s.at += n
	return run
}

func (s *scanner) add(kind int, text string, number uint64) {
	s.count++
	if s.keeps {
		s.tokens = append(s.tokens, api.Token{Kind: kind, Text: text, Number: number, Line: s.number})
	}
}

// maxHexDigits is how many digits may stand behind 0x.
const maxHexDigits = 16

// valueOf gives the value of a run that begins with a digit, if it is a number.
func valueOf(run string) (uint64, bool) {
	base := 10
	digits, hex := strings.CutPrefix(run, "0x")
	switch {
	case hex && len(digits) > maxHexDigits:
		return 0, false
	case hex:
		base = 16
	case run[0] == '0' && run != "0":
		return 0, false
	}
	n, err := strconv.ParseUint(digits, base, 64)
	if err != nil {
		return 0, false
	}
	return n, true
}
