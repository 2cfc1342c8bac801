package symbolic

import (
	"fmt"
	"math"
	"math/rand"
	"slices"
	"strings"
	"testing"

	"spindle/api"
	"spindle/line"
)

// maker makes texts and jobs of chance.
type maker struct {
	*rand.Rand
	words  []string            // the mnemonics
	forms  map[string][]string // which operands each of them may have
	shapes map[string]string   // what a `.map` says of each table's name
}

func makerOf(seed int64) *maker {
	return &maker{Rand: rand.New(rand.NewSource(seed)), words: line.Words(), forms: formsOf(), shapes: map[string]string{}}
}

// The letters of a form: a register that is written, one that is read, a number, a place in memory, a name.
func formsOf() map[string][]string {
	forms := map[string][]string{}
	sample := strings.NewReplacer("D", "r1", "S", "r2", "I", "2", "B", "[r10-8]", "N", "x")
	for _, word := range line.Words() {
		for _, form := range []string{"", "D", "I", "N", "D, S", "D, I", "D, B", "D, N", "B, S", "B, I", "D, S, N", "D, I, N"} {
			// A register's name is a name too, where one is wanted.
			_, target, e := line.Parse(strings.TrimSpace(word + " " + sample.Replace(form)))
			if e == api.OK && strings.Contains(form, "N") == (target != "") {
				forms[word] = append(forms[word], form)
			}
		}
	}
	return forms
}

// one gives one of a list.
func one[E any](c *maker, list ...E) E { return list[c.Intn(len(list))] }

// register gives one to be written; at times that is r10.
func (c *maker) register() string {
	return fmt.Sprint("r", one(c, 0, 1, 2, 3, 4, 5, 0, 1, 2, 3, 4, 5, 6+c.Intn(5)*c.Intn(2)))
}

// place gives one in memory, most often one that is there: of the frame, of the context (r6) or of a table (r7).
func (c *maker) place() string {
	reg, off := 10, -8*(1+c.Intn(6))
	switch c.Intn(14) {
	case 0, 1:
		reg, off = 6, c.Intn(20)
	case 2, 3:
		reg, off = 7, c.Intn(20)
	case 4:
		reg, off = 10, -c.Intn(520)
	case 5:
		reg, off = c.Intn(11), c.Intn(40)-20
	}
	return fmt.Sprintf("[r%d%+d]", reg, off)
}

// number gives one that fits a mnemonic; of a call it is a helper's.
func (c *maker) number(word string) string {
	switch {
	case word == "call":
		return fmt.Sprint(one(c, 1, 2, 3, 3, 3, 4))
	case word == "lddw" && c.Intn(2) == 0:
		return fmt.Sprint(one(c, 1<<32, 16<<32, 2<<32-8, math.MaxInt, math.MinInt, int(c.Uint64())))
	}
	return fmt.Sprint(one(c, 0, 1, -1, 2, c.Intn(100)-50, math.MaxInt32, math.MinInt32, int(int32(c.Uint32()))))
}

// scope is what the steps of a function can name.
type scope struct {
	functions []string
	tables    []string
}

// step gives a line; `@` stands for a label.
func (c *maker) step(s scope, word string) string {
	form := one(c, c.forms[word]...)
	name := "@"
	switch {
	case word == "call" && form == "N":
		name = one(c, s.functions...)
	case word == "ldmap" && len(s.tables) == 0:
		return "call 3"
	case word == "ldmap":
		name = one(c, s.tables...)
	}
	operands := strings.NewReplacer("D", c.register(), "S", fmt.Sprint("r", c.Intn(11)), "I", c.number(word), "B", c.place(), "N", name).Replace(form)
	return strings.TrimSpace(word + " " + operands)
}

// helping gives a call of a helper with its arguments: the key is one of few, on the frame.
func (c *maker) helping(s scope) []string {
	return []string{
		fmt.Sprintf("stdw [r10-8], %d", c.Intn(4)),
		"ldmap r1, " + one(c, s.tables...),
		"mov r2, r10",
		"add r2, -8",
		"mov r3, " + one(c, "r10", "r10", "r10", "r7", "r6"),
		fmt.Sprintf("add r3, %d", one(c, -24, -24, 0, -100)),
		fmt.Sprintf("mov r4, %d", one(c, 0, 0, 0, 1, 2, 3)),
		fmt.Sprintf("call %d", one(c, 1, 1, 2, 2, 2, 2, 4)),
	}
}

// body gives the lines of a function's steps, each with a label ahead of it.
func (c *maker) body(s scope) string {
	lines := []string{"mov r6, r1"}
	for range 1 + c.Intn(8) {
		switch {
		case c.Intn(6) == 0 && len(s.tables) > 0:
			lines = append(lines, c.helping(s)...)
		case c.Intn(8) == 0 && len(s.tables) > 0:
			lines = append(lines, "ldmap r7, "+one(c, s.tables...))
		case c.Intn(5) == 0:
			lines = append(lines, "call "+one(c, s.functions...))
		case c.Intn(60) == 0:
			lines = append(lines, "call "+one(c, "0", "5", "-1"))
		default:
			lines = append(lines, c.step(s, one(c, c.words...)))
		}
	}
	if c.Intn(6) > 0 {
		lines = append(lines, "exit")
	}
	var text strings.Builder
	for k, l := range lines {
		// Most branches lead forward, so that most runs end.
		to := min(k+1+c.Intn(4), len(lines)-1)
		if c.Intn(5) == 0 {
			to = c.Intn(len(lines))
		}
		fmt.Fprintf(&text, "L%d: %s\n", k, strings.ReplaceAll(l, "@", fmt.Sprint("L", to)))
	}
	return text.String()
}

// some gives some of a list, in its order.
func some(c *maker, list []string) []string {
	var part []string
	for _, x := range list {
		if c.Intn(2) == 0 {
			part = append(part, x)
		}
	}
	return part
}

// texts gives texts that link, and the names of their global functions. A name that is global in one of them may be local in another.
func (c *maker) texts() ([]string, []string) {
	globals := []string{"m", "g", "h.1", "_i", "a"}[:1+c.Intn(5)]
	owners := make([]int, len(globals))
	many := 1 + c.Intn(4)
	for k := range owners {
		owners[k] = c.Intn(many)
	}
	for _, name := range []string{"t", "u0", "u", "b", "T"} {
		c.shapes[name] = one(c, fmt.Sprintf("array 4 %d %d", 1+c.Intn(17), 1+c.Intn(4)), fmt.Sprintf("hash %d %d %d", 1+c.Intn(8), 1+c.Intn(17), 1+c.Intn(3)))
	}
	var texts []string
	for k := range many {
		texts = append(texts, c.text(k, globals, owners))
	}
	return texts, globals
}

// text gives that of a number, where each global name has the number of the text whose it is.
func (c *maker) text(number int, globals []string, owners []int) string {
	var own, externs, free []string
	for k, name := range globals {
		switch {
		case owners[k] == number:
			own = append(own, name)
		case c.Intn(3) > 0:
			externs = append(externs, name)
		default:
			free = append(free, name)
		}
	}
	locals := some(c, append(free, "b", "c"))
	tables := slices.DeleteFunc(some(c, []string{"t", "u0", "u", "b", "T"}), func(name string) bool { return slices.Contains(locals, name) })
	s := scope{slices.Concat(own, externs, locals), tables}
	var parts []string
	for _, name := range externs {
		parts = append(parts, ".extern "+name+"\n")
	}
	for _, name := range tables {
		parts = append(parts, ".map "+name+" "+c.shapes[name]+"\n")
	}
	for _, name := range own {
		parts = append(parts, ".global "+name+"\n", ".func "+name+"\n"+c.body(s))
	}
	for _, name := range locals {
		parts = append(parts, ".func "+name+"\n"+c.body(s))
	}
	c.Shuffle(len(parts), func(a, b int) { parts[a], parts[b] = parts[b], parts[a] })
	return strings.Join(parts, "")
}

// job gives one that may be for modules that link.
func (c *maker) job(ms []api.Module) api.Job {
	job := api.Job{Context: make([]byte, one(c, 0, 1, 8, 24)), Fuel: c.Intn(70)}
	c.Read(job.Context)
	for range c.Intn(3) {
		job.Draws = append(job.Draws, c.Uint64())
	}
	told := map[string]int{}
	for _, m := range ms {
		for _, d := range m.Tables {
			if told[d.Name]++; told[d.Name] == 1 && c.Intn(2) == 0 {
				job.Contents = append(job.Contents, api.Contents{Table: d.Name, Entries: c.entries(d)})
			}
		}
	}
	return job
}

// entries gives some of a table's: the keys rise with the places.
func (c *maker) entries(d api.TableDef) []api.Entry {
	var es []api.Entry
	for place := range d.Entries {
		if c.Intn(2) == 0 {
			continue
		}
		key, value := make([]byte, d.Key), make([]byte, d.Value)
		key[0] = byte(place)
		if d.Kind == api.TableHash {
			key[0] += byte(c.Intn(2) * 128)
		}
		c.Read(value)
		es = append(es, api.Entry{Key: key, Value: value, Place: place})
	}
	return es
}

// mnemonic tells of which kind the step is that would be next, or "" where there is none.
func mnemonic(t *testing.T, m *Machine) string {
	t.Helper()
	p := m.alive().place
	body := m.functionAt(p).body
	if p.at == len(body) {
		return ""
	}
	s := body[p.at]
	target := s.Target
	if s.Branch >= 0 {
		target = "x"
	}
	text, e := line.Print(s.Insn, target)
	if e != api.OK {
		t.Fatalf("a step that can't be printed: %+v", s)
	}
	word, _, _ := strings.Cut(text, " ")
	return word
}

// count counts which steps a run does.
func count(t *testing.T, ms []api.Module, entry string, job api.Job, done map[string]int) {
	t.Helper()
	m := made(t, ms, entry, job)
	for {
		word := mnemonic(t, m)
		o, over, _ := m.Step()
		if o.Kind != api.Faulted && o.Kind != api.OutOfFuel {
			done[word]++
		}
		if over {
			return
		}
	}
}

// TestAlike: T6. Runs of chance come to the same, step by step, as those over the linked image, from each entry and at other fuels; all mnemonics and all ends are met.
func TestAlike(t *testing.T) {
	t.Parallel()
	c := makerOf(23)
	done, ends, kinds := map[string]int{}, map[api.Errno]int{}, make([]int, 4)
	for range 3000 {
		texts, globals := c.texts()
		ms := modules(texts...)
		for _, entry := range globals {
			job := c.job(ms)
			o, steps, e := checkAlike(t, ms, entry, job)
			if e != api.OK {
				t.Fatalf("P23.1: texts that link: %q: %d", texts, e)
			}
			ends[o.Code]++
			kinds[o.Kind]++
			count(t, ms, entry, job, done)
			job.Fuel = c.Intn(steps + 1)
			checkAlike(t, ms, entry, job)
		}
	}
	for _, word := range line.Words() {
		if done[word] < 20 {
			t.Errorf("%s was done %d times", word, done[word])
		}
	}
	for _, e := range []api.Errno{api.FaultMemory, api.FaultPlace, api.FaultWrite, api.FaultHelper, api.FaultDeep} {
		if ends[e] < 50 {
			t.Errorf("the fault %d came %d times: %v", e, ends[e], ends)
		}
	}
	if slices.Min(kinds[1:]) < 500 {
		t.Errorf("ends by kind: %v", kinds)
	}
}

// TestEveryFuel: at each fuel up to the whole run's, so that each place, and what memory holds then, is told.
func TestEveryFuel(t *testing.T) {
	t.Parallel()
	c := makerOf(4)
	for range 200 {
		texts, globals := c.texts()
		ms := modules(texts...)
		job := c.job(ms)
		job.Fuel = 60
		_, steps, _ := checkAlike(t, ms, globals[0], job)
		for fuel := range steps {
			job.Fuel = fuel
			checkAlike(t, ms, globals[0], job)
		}
	}
}

// TestOrders: the modules in another order come to the same, with Object told through the order.
func TestOrders(t *testing.T) {
	t.Parallel()
	c := makerOf(13)
	for range 1000 {
		texts, globals := c.texts()
		ms := modules(texts...)
		job := c.job(ms)
		order := c.Perm(len(ms))
		turned := make([]api.Module, len(ms))
		for k, to := range order {
			turned[to] = ms[k]
		}
		for _, entry := range globals {
			want := ran(t, ms, entry, job)
			if want.Kind != api.Returned {
				want.Object = order[want.Object]
			}
			if o := ran(t, turned, entry, job); !same(o, want) {
				t.Fatalf("T13: %q in the order %v: %+v, want %+v", texts, order, o, want)
			}
		}
	}
}

// TestRefusedAlike: lists and jobs of chance of which something is wrong at times.
func TestRefusedAlike(t *testing.T) {
	t.Parallel()
	c := makerOf(31)
	told := map[api.Errno]int{}
	for range 4000 {
		texts, globals := c.texts()
		ms := modules(texts...)
		entry, job := one(c, globals...), c.job(ms)
		for range c.Intn(3) {
			ms = c.spoilt(ms)
		}
		if c.Intn(12) == 0 {
			entry = one(c, "none", "t", "c", "")
		}
		if c.Intn(8) == 0 {
			job = c.spoiltJob(job)
		}
		_, _, e := checkAlike(t, ms, entry, job)
		told[e]++
	}
	for _, e := range []api.Errno{api.OK, api.ErrSymbolicModule, api.ErrLinkMany, api.ErrLinkTwice, api.ErrLinkUndefined, api.ErrLinkShape, api.ErrLinkEntry, api.ErrMachineContext, api.ErrMachineFuel, api.ErrMachineDraws, api.ErrTablesName, api.ErrTablesTwice} {
		if told[e] < 20 {
			t.Errorf("%d was told %d times: %v", e, told[e], told)
		}
	}
}

// spoilt gives modules of which something is another thing.
func (c *maker) spoilt(ms []api.Module) []api.Module {
	k := c.Intn(len(ms))
	switch c.Intn(8) {
	case 0:
		ms[k].Funcs = append(ms[k].Funcs, one(c, api.Func{Name: "empty"}, api.Func{Name: "1", Body: []api.Step{{Insn: api.Insn{Op: 0x95}, Branch: -1}}}))
	case 1:
		for _, f := range ms[k].Funcs {
			for at := range f.Body[:min(1, len(f.Body))] {
				f.Body[at].Branch = one(c, -1, 0, 1, 100)
			}
		}
	case 2:
		for f := range ms[k].Funcs {
			ms[k].Funcs[f].Global = c.Intn(2) == 0
		}
	case 3:
		for d := range ms[k].Tables {
			ms[k].Tables[d].Entries = one(c, 1, 2, 3)
		}
	case 4:
		ms[k].Externs = append(slices.Clone(ms[k].Externs), one(c, "t", "none", "b", "m"))
	case 5:
		return append(ms, ms[k])
	case 6:
		return slices.Delete(ms, k, k+min(1, len(ms)-1))
	case 7:
		return append(ms, make([]api.Module, one(c, 1, max(0, 64-len(ms)), max(0, 65-len(ms))))...)
	}
	return ms
}

func (c *maker) spoiltJob(job api.Job) api.Job {
	switch c.Intn(5) {
	case 0:
		job.Context = make([]byte, api.MaxContext+1)
	case 1:
		job.Fuel = one(c, -1, api.MaxFuel+1)
	case 2:
		job.Draws = make([]uint64, api.MaxDraws+1)
	case 3:
		job.Contents = append(job.Contents, contents(one(c, "none", "m", "")))
	case 4:
		job.Contents = append(job.Contents, job.Contents...)
	}
	return job
}
