package lex

import (
	"math/big"
	"regexp"
	"strconv"
	"strings"

	"spindle/api"
)

// The chapter's words, written down anew for the tests: a token, or what is passed over, at the front of a line.
var (
	passedOver = regexp.MustCompile(`^(?:[ \t\r]|[;#](?s:.*)$)`)
	wordAhead  = regexp.MustCompile(`^[a-zA-Z_][a-zA-Z0-9_.$]*`)
	dotAhead   = regexp.MustCompile(`^\.[a-zA-Z_][a-zA-Z0-9_.$]*`)
	runAhead   = regexp.MustCompile(`^[0-9][a-zA-Z0-9_.$]*`)
	markAhead  = regexp.MustCompile(`^[][:,+-]`)
	aNumber    = regexp.MustCompile(`^(?:0|[1-9][0-9]*|0x[0-9a-fA-F]{1,16})$`)
	aWord      = regexp.MustCompile(`^[a-zA-Z_][a-zA-Z0-9_.$]{0,63}$`)
	aDot       = regexp.MustCompile(`^\.[a-zA-Z_][a-zA-Z0-9_.$]{0,63}$`)
	aMark      = regexp.MustCompile(`^[][:,+-]$`)
)

// readTokens is Tokens by the chapter's words.
func readTokens(text string) ([]api.Token, int, api.Errno) {
	if len(text) > 16777216 {
		return nil, 0, api.ErrLexLong
	}
	lines := strings.Split(text, "\n")
	if lines[len(lines)-1] == "" {
		lines = lines[:len(lines)-1]
	}
	var all []api.Token
	for k, line := range lines {
		ts, e := readLine(line)
		if e != api.OK {
			return nil, k + 1, e
		}
		for _, t := range ts {
			t.Line = k + 1
			all = append(all, t)
		}
	}
	return append(all, api.Token{Kind: api.TokenEnd, Line: len(lines)}), 0, api.OK
}

func readLine(line string) ([]api.Token, api.Errno) {
	if len(line) > 1024 {
		return nil, api.ErrLexLine
	}
	var ts []api.Token
	for line != "" {
		t, size, e := readToken(line)
		if e != api.OK {
			return nil, e
		}
		if t.Kind != api.TokenEnd {
			ts = append(ts, t)
		}
		line = line[size:]
	}
	return append(ts, api.Token{Kind: api.TokenLine}), api.OK
}

// readToken gives what stands at the front of a line, and its size: TokenEnd stands for what is passed over.
func readToken(line string) (api.Token, int, api.Errno) {
	if s := passedOver.FindString(line); s != "" {
		return api.Token{}, len(s), api.OK
	}
	if s := wordAhead.FindString(line); s != "" {
		if len(s) > 64 {
			return api.Token{}, 0, api.ErrLexName
		}
		return api.Token{Kind: api.TokenWord, Text: s}, len(s), api.OK
	}
	if s := dotAhead.FindString(line); s != "" {
		if len(s) > 65 {
			return api.Token{}, 0, api.ErrLexName
		}
		return api.Token{Kind: api.TokenDot, Text: s}, len(s), api.OK
	}
	if s := runAhead.FindString(line); s != "" {
		n, ok := new(big.Int).SetString(s, 0)
		if !aNumber.MatchString(s) || !ok || !n.IsUint64() {
			return api.Token{}, 0, api.ErrLexNumber
		}
		return api.Token{Kind: api.TokenNumber, Number: n.Uint64()}, len(s), api.OK
	}
	if s := markAhead.FindString(line); s != "" {
		return api.Token{Kind: api.TokenMark, Text: s}, 1, api.OK
	}
	return api.Token{}, 0, api.ErrLexByte
}

// mayBe tells whether a token may be, by the chapter's words.
func mayBe(t api.Token) bool {
	switch t.Kind {
	case api.TokenWord:
		return aWord.MatchString(t.Text) && t.Number == 0
	case api.TokenDot:
		return aDot.MatchString(t.Text) && t.Number == 0
	case api.TokenNumber:
		return t.Text == ""
	case api.TokenMark:
		return aMark.MatchString(t.Text) && t.Number == 0
	case api.TokenLine, api.TokenEnd:
		return t.Text == "" && t.Number == 0
	}
	return false
}

// tokenText is how a token is written within its line.
func tokenText(t api.Token) string {
	if t.Kind == api.TokenNumber {
		return strconv.FormatUint(t.Number, 10)
	}
	return t.Text
}

// readUntoken is Untoken by the chapter's words.
func readUntoken(ts []api.Token) (string, api.Errno) {
	var text strings.Builder
	var line []string
	for k, t := range ts {
		switch {
		case t.Kind == api.TokenWord && !aWord.MatchString(t.Text):
			return "", api.ErrLexName
		case t.Kind == api.TokenDot && !aDot.MatchString(t.Text):
			return "", api.ErrLexName
		case t.Kind == api.TokenNumber && t.Text != "":
			return "", api.ErrLexNumber
		case !mayBe(t):
			return "", api.ErrLexByte
		case t.Kind == api.TokenEnd && k < len(ts)-1:
			return "", api.ErrLexByte
		case t.Kind == api.TokenEnd && k > 0 && ts[k-1].Kind != api.TokenLine:
			return "", api.ErrLexByte
		case t.Kind == api.TokenLine:
			written := strings.Join(line, " ")
			if len(written) > 1024 {
				return "", api.ErrLexLine
			}
			text.WriteString(written + "\n")
			line = nil
		case t.Kind != api.TokenEnd:
			line = append(line, tokenText(t))
		}
	}
	if len(ts) == 0 || ts[len(ts)-1].Kind != api.TokenEnd {
		return "", api.ErrLexByte
	}
	if text.Len() > 16777216 {
		return "", api.ErrLexLong
	}
	return text.String(), api.OK
}
