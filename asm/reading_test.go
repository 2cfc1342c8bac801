package asm

import (
	"regexp"
	"slices"
	"strconv"
	"strings"

	"spindle/api"
	"spindle/line"
	"spindle/module"
)

// Here modules and texts are read a second time, by the chapter's words. Slots are counted again for each branch, names are sought again for each relocation; a text is cut into lines here, and its object is put together of the lines: the layer below is asked for nothing but its error.

// readObject gives what Object is to answer.
func readObject(m api.Module) (api.Object, int, api.Errno) {
	if e := module.Check(m); e != api.OK {
		return api.Object{}, 0, e
	}
	for k, count := range []int{len(m.Funcs), len(m.Tables), len(m.Externs)} {
		if count > 1024 {
			return api.Object{}, k, api.ErrAsmMany
		}
	}
	o := api.Object{Tables: m.Tables, Externs: m.Externs}
	taken := 0
	for _, f := range m.Funcs {
		o.Funcs = append(o.Funcs, api.ObjFunc{Name: f.Name, Global: f.Global, First: len(o.Text), Count: len(f.Body)})
		for k, s := range f.Body {
			i, number := s.Insn, len(o.Text)
			if branches(i.Op) {
				distance := readSlots(f.Body[:s.Branch]) - readSlots(f.Body[:k+1])
				if i.Op == 0x06 {
					i.Imm = distance
				} else if i.Off = distance; distance < -32768 || distance > 32767 {
					return api.Object{}, number, api.ErrAsmBranch
				}
			}
			if taken += readSlots(f.Body[k : k+1]); taken > 65536 {
				return api.Object{}, number, api.ErrAsmLong
			}
			o.Text = append(o.Text, i)
			if s.Target != "" {
				o.Relocs = append(o.Relocs, readReloc(o, m.Funcs, number, s.Target))
			}
		}
	}
	return o, 0, api.OK
}

// branches tells by the number alone: the opcodes of the two classes of jumps, but for call and exit.
func branches(op int) bool {
	return (op%8 == 5 || op%8 == 6) && op != 0x85 && op != 0x95
}

func readSlots(steps []api.Step) int {
	count := len(steps)
	for _, s := range steps {
		if s.Insn.Op == 0x18 {
			count++
		}
	}
	return count
}

// readReloc tells by the instruction which names are meant.
func readReloc(o api.Object, fs []api.Func, number int, target string) api.Reloc {
	if o.Text[number].Op == 0x18 {
		k := slices.IndexFunc(o.Tables, func(t api.TableDef) bool { return t.Name == target })
		return api.Reloc{At: number, Kind: 1, Name: k}
	}
	var names []string
	for _, f := range fs {
		names = append(names, f.Name)
	}
	return api.Reloc{At: number, Kind: 2, Name: slices.Index(append(names, o.Externs...), target)}
}

// textLine is a line of a text that is right: its labels, the word behind them, and that word with all behind it.
type textLine struct {
	labels []string
	word   string
	rest   string
}

var labelShape = regexp.MustCompile(`^[ \t]*([A-Za-z_][A-Za-z0-9_.$]*)[ \t]*:`)

func cutLines(text []byte) []textLine {
	var lines []textLine
	for _, raw := range strings.SplitAfter(string(text), "\n") {
		if raw == "" {
			continue
		}
		rest := strings.TrimSuffix(raw, "\n")
		if at := strings.IndexAny(rest, ";#"); at >= 0 {
			rest = rest[:at]
		}
		rest = strings.ReplaceAll(rest, "\r", " ")
		var l textLine
		for strings.Contains(rest, ":") {
			found := labelShape.FindStringSubmatch(rest)
			l.labels = append(l.labels, found[1])
			rest = rest[len(found[0]):]
		}
		l.rest = strings.Trim(rest, " \t")
		l.word, _, _ = strings.Cut(strings.ReplaceAll(l.rest, "\t", " "), " ")
		lines = append(lines, l)
	}
	return lines
}

func (l textLine) hasInsn() bool { return l.word != "" && l.word[0] != '.' }

func (l textLine) slots() int {
	switch {
	case !l.hasInsn():
		return 0
	case l.word == "lddw" || l.word == "ldmap":
		return 2
	}
	return 1
}

// namesBehind gives the names that stand behind a directive, line by line.
func namesBehind(lines []textLine, word string) []string {
	var names []string
	for _, l := range lines {
		if l.word == word {
			names = append(names, strings.Fields(l.rest)[1])
		}
	}
	return names
}

// reader reads the lines of a text that is right but for its sizes.
type reader struct {
	lines   []textLine
	ahead   []int // how many slots stand ahead of each line, and of the text's end
	funcs   []string
	tables  []string
	externs []string
	globals []string
	object  api.Object
}

// readAssemble gives what Assemble is to answer.
func readAssemble(text []byte) (api.Object, int, api.Errno) {
	if _, at, e := module.Parse(text); e != api.OK {
		return api.Object{}, at, e
	}
	r := &reader{lines: cutLines(text), ahead: []int{0}}
	for _, l := range r.lines {
		r.ahead = append(r.ahead, r.ahead[len(r.ahead)-1]+l.slots())
	}
	r.funcs, r.tables, r.externs = namesBehind(r.lines, ".func"), namesBehind(r.lines, ".map"), namesBehind(r.lines, ".extern")
	r.globals = namesBehind(r.lines, ".global")
	r.object.Externs = r.externs
	externs := 0
	for k, l := range r.lines {
		var e api.Errno
		switch l.word {
		case "", ".global":
		case ".func":
			e = r.function(strings.Fields(l.rest)[1])
		case ".map":
			e = r.table(strings.Fields(l.rest))
		case ".extern":
			if externs++; externs > 1024 {
				e = api.ErrAsmMany
			}
		default:
			e = r.insn(k)
		}
		if e != api.OK {
			return api.Object{}, k + 1, e
		}
	}
	return r.object, 0, api.OK
}

func (r *reader) function(name string) api.Errno {
	if len(r.object.Funcs) == 1024 {
		return api.ErrAsmMany
	}
	r.object.Funcs = append(r.object.Funcs, api.ObjFunc{Name: name, Global: slices.Contains(r.globals, name), First: len(r.object.Text)})
	return api.OK
}

func (r *reader) table(words []string) api.Errno {
	if len(r.object.Tables) == 1024 {
		return api.ErrAsmMany
	}
	number := func(s string) int {
		n, _ := strconv.ParseInt(s, 0, 64)
		return int(n)
	}
	kinds := []string{"", "array", "hash"}
	r.object.Tables = append(r.object.Tables, api.TableDef{Name: words[1], Kind: slices.Index(kinds, words[2]), Key: number(words[3]), Value: number(words[4]), Entries: number(words[5])})
	return api.OK
}

func (r *reader) insn(k int) api.Errno {
	l := r.lines[k]
	i, target, _ := line.Parse(l.rest)
	at := len(r.object.Text)
	switch {
	case l.word == "ja32":
		i.Imm = r.ahead[r.labelled(k, target)] - r.ahead[k+1]
	case l.word[0] == 'j':
		i.Off = r.ahead[r.labelled(k, target)] - r.ahead[k+1]
		if i.Off < -32768 || i.Off > 32767 {
			return api.ErrAsmBranch
		}
	case l.word == "call" && target != "":
		names := append(slices.Clone(r.funcs), r.externs...)
		r.object.Relocs = append(r.object.Relocs, api.Reloc{At: at, Kind: 2, Name: slices.Index(names, target)})
	case l.word == "ldmap":
		r.object.Relocs = append(r.object.Relocs, api.Reloc{At: at, Kind: 1, Name: slices.Index(r.tables, target)})
	}
	if r.ahead[k+1] > 65536 {
		return api.ErrAsmLong
	}
	r.object.Text = append(r.object.Text, i)
	r.object.Funcs[len(r.object.Funcs)-1].Count++
	return api.OK
}

// labelled gives the line of a label of the function in which line k stands.
func (r *reader) labelled(k int, name string) int {
	for r.lines[k].word != ".func" {
		k--
	}
	// Labels ahead of `.func` in its line are those of the function ahead.
	for k++; !slices.Contains(r.lines[k].labels, name); k++ {
	}
	return k
}
