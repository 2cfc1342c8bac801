package module

import (
	"strconv"
	"strings"

	"spindle/api"
	"spindle/line"
)

// writer writes the lines of modules that may be.
type writer struct {
	text strings.Builder
}

// line writes a line that is made of those parts.
func (w *writer) line(parts ...string) {
	for _, part := range parts {
		w.text.WriteString(part)
	}
	w.text.WriteByte('\n')
}

func (w *writer) table(t api.TableDef) {
	w.line(".map ", t.Name, " ", wordOf(t.Kind), " ", strconv.Itoa(t.Key), " ", strconv.Itoa(t.Value), " ", strconv.Itoa(t.Entries))
}

func (w *writer) function(f api.Func) {
	if f.Global {
		w.line(".global ", f.Name)
	}
	w.line(".func ", f.Name)
	led := ledTo(f.Body)
	for k, s := range f.Body {
		if led[k] {
			w.line(labelOf(k), ":")
		}
		w.step(s)
	}
}

func (w *writer) step(s api.Step) {
	target := s.Target
	if isBranch(s.Insn) {
		target = labelOf(s.Branch)
	}
	text, _ := line.Print(s.Insn, target)
	w.line("\t", text)
}

// ledTo tells of each step whether a branch leads to it.
func ledTo(body []api.Step) []bool {
	led := make([]bool, len(body))
	for _, s := range body {
		if s.Branch != noBranch {
			led[s.Branch] = true
		}
	}
	return led
}

// labelOf gives the label that the step with that number has in print.
func labelOf(step int) string {
	return "L" + strconv.Itoa(step)
}
