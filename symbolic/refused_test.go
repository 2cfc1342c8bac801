package symbolic

import (
	"fmt"
	"math"
	"slices"
	"strings"
	"testing"

	"spindle/api"
)

// wantRefused: what New and Run answer, beside no machine and no outcome.
func wantRefused(t *testing.T, what string, ms []api.Module, entry string, job api.Job, k int, e api.Errno) {
	t.Helper()
	if m, n, wrong := New(ms, entry, job); m != nil || n != k || wrong != e {
		t.Errorf("P23.1: %s: New = %v, %d, %d, want %d, %d", what, m != nil, n, wrong, k, e)
	}
	if o, n, wrong := Run(ms, entry, job); !same(o, api.Outcome{}) || n != k || wrong != e {
		t.Errorf("P23.3: %s: Run = %+v, %d, %d, want %d, %d", what, o, n, wrong, k, e)
	}
}

// badJob is one of which all is wrong.
func badJob() api.Job {
	return api.Job{Context: make([]byte, api.MaxContext+1), Fuel: -1, Draws: make([]uint64, api.MaxDraws+1), Contents: []api.Contents{{Table: "none"}}}
}

// badModules gives modules of each of which asm.Object is refused, by what is wrong with them.
func badModules() map[string]api.Module {
	exit := api.Step{Insn: api.Insn{Op: 0x95}, Branch: -1}
	of := func(steps ...api.Step) api.Module {
		return api.Module{Funcs: []api.Func{{Name: "bad", Global: true, Body: steps}}}
	}
	tables := func(ds ...api.TableDef) api.Module { return api.Module{Tables: ds} }
	many := func(n int, line string) api.Module {
		var text strings.Builder
		for k := range n {
			fmt.Fprintf(&text, line+"|", k)
		}
		return modules(text.String())[0]
	}
	far := modules(".func bad|ja x|exit|x: exit")[0]
	far.Funcs[0].Body = append(far.Funcs[0].Body[:1], append(slices.Repeat([]api.Step{exit}, 32768), exit)...)
	far.Funcs[0].Body[0].Branch = 32769
	return map[string]api.Module{
		"a function of no step":        of(),
		"a name of none":               {Externs: []string{"1"}},
		"a name twice":                 {Externs: []string{"x", "x"}},
		"a table of none":              tables(api.TableDef{Name: "t", Kind: 3, Key: 4, Value: 1, Entries: 1}),
		"an opcode of none":            of(api.Step{Branch: -1, Insn: api.Insn{Op: 0xff}}),
		"a register of none":           of(api.Step{Branch: -1, Insn: api.Insn{Op: 0xb7, Dst: 11}}),
		"a branch to no step":          of(api.Step{Insn: api.Insn{Op: 0x05}, Branch: 1}),
		"a branch with a distance":     of(api.Step{Insn: api.Insn{Op: 0x05, Off: 1}}, exit),
		"a branch of none":             of(api.Step{Insn: api.Insn{Op: 0x95}}),
		"a call of no function":        of(api.Step{Insn: api.Insn{Op: 0x85, Src: 1, Imm: -1}, Branch: -1, Target: "x"}),
		"a call with a number":         of(api.Step{Insn: api.Insn{Op: 0x85, Src: 1}, Branch: -1, Target: "bad"}),
		"an ldmap of no table":         of(api.Step{Insn: api.Insn{Op: 0x18, Src: 1}, Branch: -1, Target: "bad"}),
		"a target of none":             of(api.Step{Insn: api.Insn{Op: 0x95}, Branch: -1, Target: "bad"}),
		"a branch that leads too far":  far,
		"more functions than may be":   many(api.MaxFuncs+1, ".func f%d|exit"),
		"more tables than may be":      many(api.MaxTables+1, ".map t%d array 4 1 1"),
		"more externs than may be":     many(api.MaxExterns+1, ".extern x%d"),
		"a text that is longer":        of(slices.Repeat([]api.Step{exit}, api.MaxSlots+1)...),
		"a text whose end is a lddw":   of(append(slices.Repeat([]api.Step{exit}, api.MaxSlots-1), api.Step{Insn: api.Insn{Op: 0x18}, Branch: -1})...),
		"a place behind the last step": of(exit, api.Step{Insn: api.Insn{Op: 0x15}, Branch: 2}),
	}
}

// TestRefusedModules: the first module that has no object goes ahead of all else.
func TestRefusedModules(t *testing.T) {
	t.Parallel()
	good := modules(".global m|.func m|exit")[0]
	for what, bad := range badModules() {
		for k := range 3 {
			ms := slices.Insert([]api.Module{good, good, good}, k, bad)
			wantRefused(t, what, ms, "m", badJob(), k, api.ErrSymbolicModule)
			wantRefused(t, what+", and another one behind", append(ms, api.Module{Externs: []string{""}}), "none", api.Job{}, k, api.ErrSymbolicModule)
		}
		checkAlike(t, []api.Module{good, bad}, "m", api.Job{})
		wantRefused(t, what+", behind many", append(slices.Repeat([]api.Module{{}}, 100), bad), "m", api.Job{}, 100, api.ErrSymbolicModule)
	}
}

// TestRefusedLists: what Link says of the objects goes ahead of the job, and stands beside 0.
func TestRefusedLists(t *testing.T) {
	t.Parallel()
	const m = ".global m|.func m|exit"
	for _, c := range []struct {
		what  string
		texts []string
		entry string
		e     api.Errno
	}{
		{"none", nil, "m", api.ErrLinkEntry},
		{"one of nothing", []string{""}, "m", api.ErrLinkEntry},
		{"65 of nothing", make([]string, 65), "m", api.ErrLinkMany},
		{"65, of which two have one name", append([]string{m, m}, make([]string, 63)...), "m", api.ErrLinkMany},
		{"two global functions of one name", []string{m, "", m}, "m", api.ErrLinkTwice},
		{"a table that is called as a global function", []string{m, ".map m array 4 1 1"}, "m", api.ErrLinkTwice},
		{"a name twice ahead of one that is nowhere", []string{m + "|.extern a", m}, "m", api.ErrLinkTwice},
		{"an extern that is nowhere", []string{m + "|.extern a"}, "m", api.ErrLinkUndefined},
		{"an extern that is local elsewhere", []string{m + "|.extern a", ".func a|exit"}, "m", api.ErrLinkUndefined},
		{"an extern that is a table elsewhere", []string{m + "|.extern a", ".map a array 4 1 1"}, "m", api.ErrLinkUndefined},
		{"an extern that is nowhere ahead of tables of two shapes", []string{m + "|.map t array 4 1 1", ".map t array 4 1 2|.extern a"}, "m", api.ErrLinkUndefined},
		{"tables of two shapes", []string{m + "|.map t hash 4 8 1", ".map t array 4 8 1"}, "m", api.ErrLinkShape},
		{"tables of two shapes ahead of the entry", []string{m + "|.map t hash 4 8 1", ".map t hash 4 8 2"}, "x", api.ErrLinkShape},
		{"an entry that is nowhere", []string{m}, "x", api.ErrLinkEntry},
		{"an entry that is local", []string{m + "|.func x|exit"}, "x", api.ErrLinkEntry},
		{"an entry that is a table", []string{m + "|.map x array 4 1 1"}, "x", api.ErrLinkEntry},
		{"tables that take too much room", []string{m + "|.map a hash 24 4064 4096", ".map b hash 24 4064 4096", ".map c hash 24 4064 4096|.map d hash 24 4064 4096", ".map e hash 1 1 1"}, "m", api.ErrLinkLong},
	} {
		wantRefused(t, c.what, modules(c.texts...), c.entry, badJob(), 0, c.e)
		checkAlike(t, modules(c.texts...), c.entry, badJob())
		ms := modules(c.texts...)
		slices.Reverse(ms)
		wantRefused(t, c.what+", the other way round", ms, c.entry, api.Job{}, 0, c.e)
	}
}

func entry(key, value string, place int) api.Entry {
	return api.Entry{Key: []byte(key), Value: []byte(value), Place: place}
}

func contents(name string, es ...api.Entry) api.Contents {
	return api.Contents{Table: name, Entries: es}
}

// TestRefusedJobs: each limit, which goes ahead of which, and the number of the contents that are wrong.
func TestRefusedJobs(t *testing.T) {
	ms := modules(".global m|.func m|exit|.map h hash 1 3 2", ".map b array 4 2 3|.map h hash 1 3 2|.func x|exit")
	for _, c := range []struct {
		what string
		job  api.Job
		k    int
		e    api.Errno
	}{
		{"a long context, and all else", badJob(), 0, api.ErrMachineContext},
		{"fuel below 0, and what is behind", api.Job{Fuel: -1, Draws: make([]uint64, 65537), Contents: []api.Contents{contents("none")}}, 0, api.ErrMachineFuel},
		{"the least fuel", api.Job{Fuel: math.MinInt}, 0, api.ErrMachineFuel},
		{"too much fuel", api.Job{Fuel: api.MaxFuel + 1}, 0, api.ErrMachineFuel},
		{"many draws, and what is behind", api.Job{Draws: make([]uint64, 65537), Contents: []api.Contents{contents("none")}}, 0, api.ErrMachineDraws},
		{"a table of none", api.Job{Contents: []api.Contents{contents("h"), contents("none")}}, 1, api.ErrTablesName},
		{"a function's name", api.Job{Contents: []api.Contents{contents("h"), contents("b"), contents("m")}}, 2, api.ErrTablesName},
		{"a table twice", api.Job{Contents: []api.Contents{contents("h"), contents("b"), contents("h", entry("", "", -1))}}, 2, api.ErrTablesTwice},
		{"a place of none", api.Job{Contents: []api.Contents{contents("b"), contents("h", entry("x", "abc", 2))}}, 1, api.ErrTablesPlace},
		{"a key twice", api.Job{Contents: []api.Contents{contents("h", entry("x", "abc", 0), entry("x", "abc", 1))}}, 0, api.ErrTablesKey},
		{"an array's key that is not its place", api.Job{Contents: []api.Contents{contents("b", entry("\x01\x00\x00\x00", "ab", 2))}}, 0, api.ErrTablesKey},
		{"a short value", api.Job{Contents: []api.Contents{contents("b", entry("\x01\x00\x00\x00", "a", 1))}}, 0, api.ErrTablesValue},
	} {
		wantRefused(t, c.what, ms, "m", c.job, c.k, c.e)
		checkAlike(t, ms, "m", c.job)
	}
	limits := api.Job{Context: make([]byte, api.MaxContext), Fuel: api.MaxFuel, Draws: make([]uint64, api.MaxDraws), Contents: []api.Contents{contents("h", entry("x", "abc", 1)), contents("b", entry("\x02\x00\x00\x00", "ab", 2))}}
	if o, _, e := checkAlike(t, ms, "m", limits); e != api.OK || o.Kind != api.Returned || o.Fuel != api.MaxFuel-1 {
		t.Errorf("P23.1: a job at the limits: kind %d, fuel %d, %d", o.Kind, o.Fuel, e)
	}
}
