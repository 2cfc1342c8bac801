package lex

import (
	"strconv"
	"strings"

	"spindle/api"
)

// writer writes tokens as a text. It goes on counting where the text is too long already, but writes no more of it.
type writer struct {
	text strings.Builder
	size int
	line int
}

func (w *writer) token(t api.Token) {
	switch t.Kind {
	case api.TokenWord, api.TokenDot, api.TokenMark:
		w.piece(t.Text)
	case api.TokenNumber:
		w.piece(strconv.FormatUint(t.Number, 10))
	case api.TokenLine:
		w.put("\n")
		w.line = 0
	}
}

// piece writes a token that is seen, with a blank between it and the one ahead of it on its line.
func (w *writer) piece(text string) {
	if w.line > 0 {
		w.put(" ")
	}
	w.put(text)
}

func (w *writer) put(text string) {
	w.size += len(text)
	w.line += len(text)
	if w.size <= api.MaxText {
		w.text.WriteString(text)
	}
}

// may tells what is wrong with a token, whatever stands beside it.
func may(t api.Token) api.Errno {
	switch t.Kind {
	case api.TokenWord:
		if !isWord(t.Text) {
			return api.ErrLexName
		}
	case api.TokenDot:
		if word, dotted := strings.CutPrefix(t.Text, "."); !dotted || !isWord(word) {
			return api.ErrLexName
		}
	case api.TokenNumber:
		if t.Text != "" {
			return api.ErrLexNumber
		}
		return api.OK
	case api.TokenMark:
		if !isMark(t.Text) {
			return api.ErrLexByte
		}
	case api.TokenLine, api.TokenEnd:
		if t.Text != "" {
			return api.ErrLexByte
		}
	default:
		return api.ErrLexByte
	}
	if t.Number != 0 {
		return api.ErrLexByte
	}
	return api.OK
}

// endsAt tells whether the token with that number may be the text's end: nothing stands behind it, and no line is open.
func endsAt(ts []api.Token, k int) bool {
	return k == len(ts)-1 && (k == 0 || ts[k-1].Kind == api.TokenLine)
}
