package symbolic

import (
	"bytes"
	"fmt"
	"slices"
	"strings"
	"testing"

	"spindle/api"
	"spindle/asm"
	"spindle/link"
	"spindle/machine"
	"spindle/module"
)

// modules gives the modules of texts in which `|` stands for LF.
func modules(texts ...string) []api.Module {
	var ms []api.Module
	for _, text := range texts {
		m, at, e := module.Parse([]byte(strings.ReplaceAll(text, "|", "\n")))
		if e != api.OK {
			panic(fmt.Sprintf("%s: line %d, %d", text, at, e))
		}
		ms = append(ms, m)
	}
	return ms
}

// short tells the beginning of a thing, as some are long.
func short(x any) string {
	s := fmt.Sprintf("%+v", x)
	return s[:min(len(s), 1000)]
}

// same tells whether two outcomes are one; nil and empty lists are.
func same(a, b api.Outcome) bool {
	tables := func(a, b api.Contents) bool {
		return a.Table == b.Table && slices.EqualFunc(a.Entries, b.Entries, func(a, b api.Entry) bool {
			return bytes.Equal(a.Key, b.Key) && bytes.Equal(a.Value, b.Value) && a.Place == b.Place
		})
	}
	return a.Kind == b.Kind && a.Word == b.Word && a.Code == b.Code && a.Func == b.Func && a.Object == b.Object && a.At == b.At &&
		bytes.Equal(a.Context, b.Context) && slices.EqualFunc(a.Tables, b.Tables, tables) && a.Fuel == b.Fuel && a.Draws == b.Draws
}

// made gives the machine of modules and a job that may be.
func made(t *testing.T, ms []api.Module, entry string, job api.Job) *Machine {
	t.Helper()
	m, k, e := New(ms, entry, job)
	if m == nil || k != 0 || e != api.OK {
		t.Fatalf("P23.1: New(%s, %s) = %v, %d, %d", short(ms), entry, m != nil, k, e)
	}
	return m
}

// ran gives the outcome of modules and a job that may be.
func ran(t *testing.T, ms []api.Module, entry string, job api.Job) api.Outcome {
	t.Helper()
	o, k, e := Run(ms, entry, job)
	if k != 0 || e != api.OK {
		t.Fatalf("P23.3: Run(%s, %s) = %d, %d", short(ms), entry, k, e)
	}
	return o
}

// finish makes steps until the run is over, and gives how many they were.
func finish(t *testing.T, m *Machine) (api.Outcome, int) {
	t.Helper()
	for n := 1; ; n++ {
		o, over, e := m.Step()
		switch {
		case e != api.OK:
			t.Fatalf("P23.2: Step = %d", e)
		case over:
			return o, n
		case !same(o, api.Outcome{}):
			t.Fatalf("P23.2: a run that is not over tells %+v", o)
		}
	}
}

// other gives, as the chapter puts it together, what the machine over the linked image is; or the number and the error that New answers.
func other(ms []api.Module, entry string, job api.Job) (*machine.Machine, int, api.Errno) {
	var os []api.Object
	for k, m := range ms {
		o, _, e := asm.Object(m)
		if e != api.OK {
			return nil, k, api.ErrSymbolicModule
		}
		os = append(os, o)
	}
	im, _, e := link.Link(os, entry)
	if e != api.OK {
		return nil, 0, e
	}
	return machine.New(im, job)
}

// checkAlike holds New, Step and Run against the machine over the linked image, and gives the outcome, how many steps it took, and the error.
func checkAlike(t *testing.T, ms []api.Module, entry string, job api.Job) (api.Outcome, int, api.Errno) {
	t.Helper()
	there, wantK, wantE := other(ms, entry, job)
	m, k, e := New(ms, entry, job)
	o, runK, runE := Run(ms, entry, job)
	if k != wantK || e != wantE || (m != nil) != (there != nil) {
		t.Fatalf("P23.1: New(%s, %q, %s) = %v, %d, %d, want %d, %d", short(ms), entry, short(job), m != nil, k, e, wantK, wantE)
	}
	if runK != wantK || runE != wantE {
		t.Fatalf("P23.3: Run(%s, %q, %s) = %d, %d, want %d, %d", short(ms), entry, short(job), runK, runE, wantK, wantE)
	}
	if e != api.OK {
		if !same(o, api.Outcome{}) {
			t.Fatalf("P23.3: beside an error Run tells %+v", o)
		}
		return o, 0, e
	}
	for steps := 1; ; steps++ {
		have, haveOver, e := m.Step()
		want, over, _ := there.Step()
		if !same(have, want) || haveOver != over || e != api.OK {
			t.Fatalf("P23.4: step %d of %s, %q, %s: %+v, %v, %d, want %+v, %v", steps, short(ms), entry, short(job), have, haveOver, e, want, over)
		}
		if !over {
			continue
		}
		if !same(o, want) {
			t.Fatalf("P23.3: Run(%s, %q, %s) = %+v, want %+v", short(ms), entry, short(job), o, want)
		}
		return o, steps, api.OK
	}
}

func TestExamples(t *testing.T) {
	const f, g = ".global f|.func f|call g|add r0, 1|exit|.extern g", ".global g|.func g|mov r0, 4|exit"
	const seven = ".global f|.func f|mov r0, 7|exit"
	for _, c := range []struct {
		texts []string
		entry string
		fuel  int
		want  api.Outcome
		e     api.Errno
	}{
		{[]string{seven}, "f", 100, api.Outcome{Kind: api.Returned, Word: 7, Fuel: 98}, api.OK},
		{[]string{seven}, "g", 100, api.Outcome{}, api.ErrLinkEntry},
		{[]string{f, g}, "f", 100, api.Outcome{Kind: api.Returned, Word: 5, Fuel: 95}, api.OK},
		{[]string{f}, "f", 100, api.Outcome{}, api.ErrLinkUndefined},
		{[]string{f, g}, "f", 2, api.Outcome{Kind: api.OutOfFuel, Func: "g", Object: 1, At: 1}, api.OK},
		{[]string{".global f|.func f|x: ja x"}, "f", 100, api.Outcome{Kind: api.OutOfFuel, Func: "f"}, api.OK},
		{[]string{".global f|.func f|mov r10, 1|exit"}, "f", 100, api.Outcome{Kind: api.Faulted, Code: api.FaultWrite, Func: "f", Fuel: 99}, api.OK},
		{[]string{".global f|.func f|call f"}, "f", 100, api.Outcome{Kind: api.Faulted, Code: api.FaultDeep, Func: "f", Fuel: 92}, api.OK},
	} {
		o, k, e := Run(modules(c.texts...), c.entry, api.Job{Fuel: c.fuel})
		if !same(o, c.want) || k != 0 || e != c.e {
			t.Errorf("P23.3: Run(%q, %s) = %+v, %d, %d, want %+v, %d", c.texts, c.entry, o, k, e, c.want, c.e)
		}
		checkAlike(t, modules(c.texts...), c.entry, api.Job{Fuel: c.fuel})
	}
	empty := []api.Module{{Funcs: []api.Func{{Name: "f", Global: true}}}}
	if o, k, e := Run(empty, "f", api.Job{Fuel: 100}); !same(o, api.Outcome{}) || k != 0 || e != api.ErrSymbolicModule {
		t.Errorf("P23.3: a function of no step: %+v, %d, %d", o, k, e)
	}
}

// TestNil: R3, and a machine that no call has made.
func TestNil(t *testing.T) {
	for _, m := range []*Machine{nil, {}} {
		if o, over, e := m.Step(); !same(o, api.Outcome{}) || over || e != api.ErrNil {
			t.Errorf("P23.2: Step of none = %+v, %v, %d", o, over, e)
		}
	}
}

// TestSteps: a step is one instruction, or the end; of a run that was over nothing is done, and the outcome is told again.
func TestSteps(t *testing.T) {
	ms := modules(".global f|.func f|call 3|stxdw [r10-8], r0|mov r1, 1|ldxb r2, [r10-1]|exit")
	for fuel := range 8 {
		m := made(t, ms, "f", api.Job{Fuel: fuel, Draws: []uint64{9}, Context: []byte{1, 2}})
		want := api.Outcome{Kind: api.Returned, Word: 9, Context: []byte{1, 2}, Draws: 1, Fuel: fuel - 5}
		steps := 5
		if fuel < 5 {
			want = api.Outcome{Kind: api.OutOfFuel, Func: "f", At: fuel, Context: []byte{1, 2}, Draws: min(fuel, 1)}
			steps = fuel + 1
		}
		for n := range 10 {
			o, over, e := m.Step()
			if n+1 < steps && (!same(o, api.Outcome{}) || over || e != api.OK) {
				t.Errorf("P23.2: fuel %d, step %d: %+v, %v, %d", fuel, n+1, o, over, e)
			}
			if n+1 >= steps && (!same(o, want) || !over || e != api.OK) {
				t.Errorf("P23.2: fuel %d, step %d: %+v, %v, %d, want %+v", fuel, n+1, o, over, e, want)
			}
		}
	}
}

// TestEnds: each way in which a run of a module can end, and where that is told.
func TestEnds(t *testing.T) {
	three := []byte{5, 6, 7}
	for _, c := range []struct {
		texts []string
		job   api.Job
		want  api.Outcome
	}{
		{[]string{".global m|.func m|mov r0, r2|exit"}, api.Job{Fuel: 2, Context: three}, api.Outcome{Kind: api.Returned, Word: 3, Context: three}},
		{[]string{".global m|.func m|mov r0, r1|exit"}, api.Job{Fuel: 3}, api.Outcome{Kind: api.Returned, Word: 1 << 32, Fuel: 1}},
		{[]string{".global m|.func m|call g|exit|.extern g", ".func a|exit|.global g|.func g|mov r0, r10|add r0, r9|exit"}, api.Job{Fuel: 9}, api.Outcome{Kind: api.Returned, Word: 2<<32 - 512, Fuel: 4}},
		{[]string{".global m|.func m|mov r0, 1"}, api.Job{Fuel: 9}, api.Outcome{Kind: api.Faulted, Code: api.FaultPlace, Func: "m", At: 1, Fuel: 7}},
		{[]string{".global m|.func m|mov r0, 1"}, api.Job{Fuel: 1}, api.Outcome{Kind: api.OutOfFuel, Func: "m", At: 1}},
		{[]string{".global m|.func m|jeq r0, 1, x|jeq r0, 0, y|x: exit|y: mov r1, 1|.func n|exit"}, api.Job{Fuel: 9}, api.Outcome{Kind: api.Faulted, Code: api.FaultPlace, Func: "m", At: 4, Fuel: 5}},
		{[]string{".func a|exit|.global m|.func m|mov r1, 1|call 9|exit"}, api.Job{Fuel: 9}, api.Outcome{Kind: api.Faulted, Code: api.FaultHelper, Func: "m", At: 1, Fuel: 7}},
		{[]string{".global m|.func m|mov r1, 1|call 0|exit"}, api.Job{Fuel: 9}, api.Outcome{Kind: api.Faulted, Code: api.FaultHelper, Func: "m", At: 1, Fuel: 7}},
		{[]string{".extern g|.global m|.func m|call g|exit", ".func f|exit", ".global g|.func g|mov r3, 1|ldxdw r0, [r10-4]|exit"}, api.Job{Fuel: 9}, api.Outcome{Kind: api.Faulted, Code: api.FaultMemory, Func: "g", Object: 2, At: 1, Fuel: 6}},
		{[]string{".global m|.func m|lddw r10, 7|exit"}, api.Job{Fuel: 9}, api.Outcome{Kind: api.Faulted, Code: api.FaultWrite, Func: "m", Fuel: 8}},
		{[]string{".global m|.func m|axchg [r10-8], r10|exit"}, api.Job{Fuel: 9}, api.Outcome{Kind: api.Faulted, Code: api.FaultWrite, Func: "m", Fuel: 8}},
		{[]string{".extern b|.global m|.func m|x: call b", ".extern m|.global b|.func b|mov r5, 1|call m|exit"}, api.Job{Fuel: 99}, api.Outcome{Kind: api.Faulted, Code: api.FaultDeep, Func: "b", Object: 1, At: 1, Fuel: 87}},
		{[]string{".extern b|.global m|.func m|x: call b", ".extern m|.global b|.func b|mov r5, 1|call m|exit"}, api.Job{Fuel: 11}, api.Outcome{Kind: api.OutOfFuel, Func: "b", Object: 1, At: 1}},
		{[]string{".global m|.func m|mov r1, 5|call 1|exit"}, api.Job{Fuel: 9}, api.Outcome{Kind: api.Returned, Word: 1<<64 - 22, Fuel: 6}},
		{[]string{".global m|.func m|mov r6, 3|mov r1, 4|call f|add r0, r6|add r0, r1|exit|.func f|mov r6, 9|mov r0, r1|exit"}, api.Job{Fuel: 9}, api.Outcome{Kind: api.Returned, Word: 7}},
		{[]string{".global m|.func m|x: lddw r1, 5|jsgt r2, 2, y|add r2, 1|ja32 x|y: mov r0, r2|exit"}, api.Job{Fuel: 99}, api.Outcome{Kind: api.Returned, Word: 3, Fuel: 83}},
	} {
		if o, _, e := checkAlike(t, modules(c.texts...), "m", c.job); e != api.OK || !same(o, c.want) {
			t.Errorf("A run: %q: %+v, %d, want %+v", c.texts, o, e, c.want)
		}
	}
}

// TestNames: a name means a function of the same module, whatever others have it; an extern the global one of another module.
func TestNames(t *testing.T) {
	const m = ".global m|.func m|call a|mov r6, r0|call b|lsh r6, 8|add r0, r6|exit"
	word := func(want uint64, texts ...string) {
		t.Helper()
		for n := range texts {
			turned := append(slices.Clone(texts[n:]), texts[:n]...)
			if o, _, e := checkAlike(t, modules(turned...), "m", api.Job{Fuel: 99}); e != api.OK || o.Kind != api.Returned || o.Word != want {
				t.Errorf("A function that a name means: %q: %+v, %d, want %#x", turned, o, e, want)
			}
		}
	}
	word(0x0102, m+"|.func a|mov r0, 1|exit|.func b|mov r0, 2|exit")
	word(0x0104, m+"|.func a|mov r0, 1|exit|.extern b", ".global b|.func b|mov r0, 4|exit|.func a|mov r0, 3|exit")
	word(0x0304, m+"|.extern a|.extern b", ".func b|mov r0, 9|exit|.global a|.func a|mov r0, 3|exit", ".func a|mov r0, 8|exit|.global b|.func b|mov r0, 4|exit")
	word(0x0507, m+"|.extern a|.extern b", ".global a|.func a|call b|exit|.func b|mov r0, 5|exit", ".global b|.func b|call a|exit|.func a|mov r0, 7|exit")
	word(0x0606, m+"|.extern a|.func b|call a|exit", ".func m|exit|.func b|exit|.global a|.func a|mov r0, 6|exit")
	// Tables and local functions of other modules may be called alike, and labels as anything else.
	word(0x0111, ".map t array 4 8 1|.global m|.func m|a: call a|mov r6, r0|ldmap r0, t|rsh r0, 32|lsh r6, 8|add r0, r6|m: exit|.func a|mov r0, 1|exit", ".func t|exit|.map a array 4 1 1")
	word(0x0201, m+"|.extern a|.extern b", ".global a|.func a|mov r0, 2|exit", ".func q|exit|.global b|.func b|ldmap r0, u|ldmap r1, s|sub r0, r1|rsh r0, 32|exit|.map u array 4 1 1|.map s array 4 1 1")
}

// TestEntry: the entry is a global function, wherever it stands, whatever else has its name.
func TestEntry(t *testing.T) {
	ms := modules(".func e|mov r0, 1|exit|.global f|.func f|mov r0, 2|exit|.extern g", ".func f|mov r0, 3|exit|.global g|.func g|mov r0, 4|exit|.global e|.func e|mov r0, 5|exit")
	for entry, want := range map[string]uint64{"f": 2, "g": 4, "e": 5} {
		if o, _, e := checkAlike(t, ms, entry, api.Job{Fuel: 9}); e != api.OK || o.Word != want {
			t.Errorf("P23.1: the entry %s: %+v, %d, want %d", entry, o, e, want)
		}
	}
	for _, entry := range []string{"", "x", "E", "e ", "\x00", "\xff", strings.Repeat("e", 65), strings.Repeat("e", 1<<20)} {
		if _, _, e := checkAlike(t, ms, entry, api.Job{Fuel: 9}); e != api.ErrLinkEntry {
			t.Errorf("P23.1: the entry %s: %d", short(entry), e)
		}
	}
}

// TestTables: a handle hangs on the place of the table's name among all names; each name is there once, and an outcome tells all of them.
func TestTables(t *testing.T) {
	const put = "|ldmap r1, %s|mov r2, r10|add r2, -8|stdw [r10-8], 2|mov r3, r2|mov r4, 0|call 2|"
	ms := modules(
		".extern g|.map n hash 8 8 4|.map c array 4 8 3|.global m|.func m|"+fmt.Sprintf(put, "n")+"call g|ldmap r0, n|exit",
		".map b array 4 2 1",
		".global g|.map n hash 8 8 4|.func g"+fmt.Sprintf(put, "c")+"ldmap r1, n|stdw [r10-16], 7|mov r2, r10|add r2, -16|mov r3, r2|mov r4, 0|call 2|exit|.map c array 4 8 3",
	)
	key := func(n byte) []byte { return []byte{n, 0, 0, 0, 0, 0, 0, 0} }
	want := api.Outcome{Kind: api.Returned, Word: 18 << 32, Fuel: 75, Tables: []api.Contents{
		{Table: "b", Entries: []api.Entry{{Key: make([]byte, 4), Value: make([]byte, 2)}}},
		{Table: "c", Entries: []api.Entry{{Key: key(0)[:4], Value: key(0)}, {Key: key(1)[:4], Value: key(0), Place: 1}, {Key: key(2)[:4], Value: key(2), Place: 2}}},
		{Table: "n", Entries: []api.Entry{{Key: key(2), Value: key(2)}, {Key: key(7), Value: key(7), Place: 1}}},
	}}
	if o, _, e := checkAlike(t, ms, "m", api.Job{Fuel: 100}); e != api.OK || !same(o, want) {
		t.Errorf("P23.3: tables: %+v, %d, want %+v", o, e, want)
	}
	filled := api.Job{Fuel: 100, Contents: []api.Contents{{Table: "n", Entries: []api.Entry{{Key: key(2), Value: key(9), Place: 0}, {Key: key(5), Value: key(9), Place: 2}}}}}
	want.Tables[2].Entries = append(want.Tables[2].Entries, api.Entry{Key: key(5), Value: key(9), Place: 2})
	if o, _, e := checkAlike(t, ms, "m", filled); e != api.OK || !same(o, want) {
		t.Errorf("P23.3: tables with contents: %+v, %d, want %+v", o, e, want)
	}
	checkHandles(t)
}

// checkHandles: names that differ by case, by signs and by length, in modules of which each has one.
func checkHandles(t *testing.T) {
	t.Helper()
	names := []string{"b", "B", "_", "a.", "a", "a$", "a0", "aa", "Z", "z", "a_", "aA"}
	sorted := slices.Sorted(slices.Values(names))
	for _, name := range names {
		texts := []string{".global m|.func m|ldmap r0, " + name + "|exit|.map " + name + " array 4 1 1"}
		for _, n := range names {
			texts = append(texts, ".map "+n+" array 4 1 1")
		}
		want := uint64(16+slices.Index(sorted, name)) << 32
		if o, _, e := checkAlike(t, modules(texts...), "m", api.Job{Fuel: 9}); e != api.OK || o.Word != want {
			t.Errorf("A run: the handle of %s: %#x, %d, want %#x", name, o.Word, e, want)
		}
	}
}
