package parse

import (
	"strconv"
	"strings"

	"spindle/api"
	"spindle/line"
)

// writer writes lines as a text. It goes on counting where the text is too long already, but writes no more of it.
type writer struct {
	text strings.Builder
	size int
}

func (w *writer) line(text string) {
	w.size += len(text) + 1
	if w.size <= api.MaxText {
		w.text.WriteString(text)
		w.text.WriteByte('\n')
	}
}

// lineOf gives a statement's line, or tells why the statement may not be.
func lineOf(s api.Statement) (string, api.Errno) {
	switch {
	case s.Kind == api.StmtInsn && s.Name == "" && !hasLists(s):
		return line.Print(s.Insn, s.Target)
	case hasInsn(s) || !isName(s.Name):
		return "", api.ErrParseToken
	case s.Kind == api.StmtMap:
		return tableLine(s)
	case hasLists(s):
		return "", api.ErrParseToken
	}
	return nameLine(s)
}

func hasLists(s api.Statement) bool {
	return len(s.Words) > 0 || len(s.Numbers) > 0
}

func hasInsn(s api.Statement) bool {
	return s.Insn != api.Insn{} || s.Target != ""
}

// nameLine gives the line of a statement that is a name alone.
func nameLine(s api.Statement) (string, api.Errno) {
	switch s.Kind {
	case api.StmtLabel:
		return s.Name + colon, api.OK
	case api.StmtFunc:
		return wordFunc + " " + s.Name, api.OK
	case api.StmtGlobal:
		return wordGlobal + " " + s.Name, api.OK
	case api.StmtExtern:
		return wordExtern + " " + s.Name, api.OK
	}
	return "", api.ErrParseToken
}

// tableLine gives the line of a table that has a name.
func tableLine(s api.Statement) (string, api.Errno) {
	if len(s.Words) != 1 || !isTableKind(s.Words[0]) || len(s.Numbers) != numberCount {
		return "", api.ErrParseToken
	}
	text := wordMap + " " + s.Name + " " + s.Words[0]
	for _, n := range s.Numbers {
		if n < 0 || n > maxNumber {
			return "", api.ErrParseToken
		}
		text += " " + strconv.Itoa(n)
	}
	return text, api.OK
}
