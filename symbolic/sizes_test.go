package symbolic

import (
	"fmt"
	"slices"
	"strings"
	"testing"

	"spindle/api"
)

// bouncing gives a function of so many steps, an even number, which jumps forth and back over the whole, so that no two steps that follow each other stand near; the last place is in the middle, and is an exit.
func bouncing(name string, steps int) api.Func {
	body := make([]api.Step, steps)
	for k := range steps / 2 {
		body[k] = api.Step{Insn: api.Insn{Op: 0x06}, Branch: steps - 1 - k}
		body[steps-1-k] = api.Step{Insn: api.Insn{Op: 0x06}, Branch: k + 1}
	}
	body[steps/2] = api.Step{Insn: api.Insn{Op: 0x95}, Branch: -1}
	return api.Func{Name: name, Global: true, Body: body}
}

// TestLongModules: as many slots as an image may have. What went through a module for each step would take hours.
func TestLongModules(t *testing.T) {
	t.Parallel()
	const many = api.MaxImage / api.MaxSlots
	var ms []api.Module
	for k := range many - 1 {
		ms = append(ms, api.Module{Funcs: []api.Func{bouncing(fmt.Sprint("f", k), api.MaxSlots)}})
	}
	calls := api.Module{Funcs: []api.Func{{Name: "m", Global: true}, bouncing("z", api.MaxSlots-many)}}
	for k := range many - 1 {
		calls.Externs = append(calls.Externs, fmt.Sprint("f", k))
		calls.Funcs[0].Body = append(calls.Funcs[0].Body, api.Step{Insn: api.Insn{Op: 0x85, Src: 1, Imm: -1}, Target: fmt.Sprint("f", k), Branch: -1})
	}
	calls.Funcs[0].Body = append(calls.Funcs[0].Body, api.Step{Insn: api.Insn{Op: 0x95}, Branch: -1})
	ms = append(ms, calls)
	want := api.Outcome{Kind: api.Returned, Fuel: api.MaxFuel - (many-1)*api.MaxSlots - many}
	if o, _, e := checkAlike(t, ms, "m", api.Job{Fuel: api.MaxFuel}); e != api.OK || !same(o, want) {
		t.Errorf("P23.4: a million slots: %+v, %d, want %+v", o, e, want)
	}
	want = api.Outcome{Kind: api.OutOfFuel, Func: "f7", Object: 7, At: 2}
	if o := ran(t, ms, "f7", api.Job{Fuel: 4}); !same(o, want) {
		t.Errorf("P23.3: one of a million slots: %+v, want %+v", o, want)
	}
	wantRefused(t, "a slot more", append(ms, modules(".func x|exit")...), "m", api.Job{}, 0, api.ErrLinkLong)
}

// TestManyFunctions: as many as an image may have, of as many modules, each of which calls one of the next module and local ones of names that all have.
func TestManyFunctions(t *testing.T) {
	t.Parallel()
	const each = api.MaxImgFuncs / api.MaxObjects
	var ms []api.Module
	for k := range api.MaxObjects {
		var text strings.Builder
		next := (k + 1) % api.MaxObjects
		fmt.Fprintf(&text, ".extern g%d|.global g%d|.func g%d|mov r6, %d|x: call l%d|call l%d|jge r9, 6, y|add r9, 1|call g%d|y: add r0, r6|exit|", next, k, k, k, each-2, each/2, next)
		for l := range each - 1 {
			fmt.Fprintf(&text, ".func l%d|add r0, %d|exit|", l, l)
		}
		ms = append(ms, modules(text.String())...)
	}
	for _, entry := range []string{"g0", "g17", "g63"} {
		if o, _, e := checkAlike(t, ms, entry, api.Job{Fuel: 1000}); e != api.OK || o.Kind != api.Returned {
			t.Errorf("P23.4: 4096 functions, entry %s: %+v, %d", entry, o, e)
		}
	}
	ms[63].Funcs = append(ms[63].Funcs, api.Func{Name: "more", Body: ms[63].Funcs[1].Body})
	wantRefused(t, "a function more", ms, "g0", api.Job{}, 0, api.ErrLinkLong)
}

// TestManyExterns: a million steps, each other of which calls one of a thousand functions of another module.
func TestManyExterns(t *testing.T) {
	t.Parallel()
	var callers, callees strings.Builder
	callers.WriteString(".global m|.func m|x: ")
	for k := range api.MaxExterns {
		fmt.Fprintf(&callers, "call %s%d|", strings.Repeat("n", 60), k)
		fmt.Fprintf(&callees, ".global %[1]s%[2]d|.func %[1]s%[2]d|exit|", strings.Repeat("n", 60), k)
	}
	callers.WriteString("ja x|")
	for k := range api.MaxExterns {
		fmt.Fprintf(&callers, ".extern %s%d|", strings.Repeat("n", 60), k)
	}
	ms := modules(callers.String(), callees.String())
	for _, fuel := range []int{api.MaxFuel, api.MaxFuel - 1, 2*api.MaxExterns + 1} {
		if o, _, e := checkAlike(t, ms, "m", api.Job{Fuel: fuel}); e != api.OK || o.Kind != api.OutOfFuel {
			t.Errorf("P23.4: many externs, fuel %d: %+v, %d", fuel, o, e)
		}
	}
}

// TestManyTables: as many as an image may have, in modules of which each has some of them, with a handle of each.
func TestManyTables(t *testing.T) {
	t.Parallel()
	texts := make([]string, api.MaxObjects)
	var sum uint64
	for k := range api.MaxTables {
		table := fmt.Sprintf(".map t%04d array 4 8 100|", k)
		texts[0] += table
		if of := k * 7 % len(texts); of != 0 {
			texts[of] += table
		}
		sum += uint64(16+k) << 32
	}
	texts[0] += ".global m|.func m|"
	for k := range api.MaxTables {
		texts[0] += fmt.Sprintf("ldmap r1, t%04d|add r0, r1|", k)
	}
	texts[0] += "exit"
	ms := modules(texts...)
	o, _, e := checkAlike(t, ms, "m", api.Job{Fuel: 5000})
	if e != api.OK || o.Word != sum || len(o.Tables) != api.MaxTables || len(o.Tables[1023].Entries) != 100 {
		t.Errorf("P23.4: 1024 tables: %d, word %#x, want %#x, %d tables", e, o.Word, sum, len(o.Tables))
	}
	ms[63].Tables = append(ms[63].Tables, api.TableDef{Name: "more", Kind: api.TableArray, Key: 4, Value: 1, Entries: 1})
	wantRefused(t, "a table more", ms, "m", api.Job{}, 0, api.ErrLinkLong)
}

// TestManyEntries: a job that fills a table of as many entries as one may have.
func TestManyEntries(t *testing.T) {
	t.Parallel()
	ms := modules(".map h hash 4 8 65536|.global m|.func m|mov r2, r10|add r2, -8|stw [r10-8], 65535|ldmap r1, h|call 1|ldxb r0, [r0+7]|exit")
	c := api.Contents{Table: "h"}
	for k := range api.MaxEntries {
		c.Entries = append(c.Entries, api.Entry{Key: []byte{byte(k), byte(k >> 8), 0, 0}, Value: []byte{0, 0, 0, 0, 0, 0, 0, byte(k)}, Place: k})
	}
	o, _, e := checkAlike(t, ms, "m", api.Job{Fuel: 9, Contents: []api.Contents{c}})
	if e != api.OK || o.Kind != api.Returned || o.Word != 255 || len(o.Tables[0].Entries) != api.MaxEntries {
		t.Errorf("P23.4: 65536 entries: %d, kind %d, word %d", e, o.Kind, o.Word)
	}
}

// TestLongRuns: as many steps as a run may have, of each sort.
func TestLongRuns(t *testing.T) {
	t.Parallel()
	for _, texts := range [][]string{
		{".global m|.func m|x: add r0, 1|sub r3, r0|ja x"},
		{".global m|.func m|x: stxdw [r10-8], r0|ldxdw r3, [r10-8]|afadd [r10-8], r3|jne32 r3, 7, x|exit"},
		{".global m|.extern f|.func m|x: call f|ja32 x", ".global f|.func f|exit"},
		{".global m|.func m|x: call 3|ldmap r7, t|ja x|.map t hash 1 1 1"},
	} {
		o, steps, e := checkAlike(t, modules(texts...), "m", api.Job{Fuel: api.MaxFuel, Draws: make([]uint64, api.MaxDraws)})
		if e != api.OK || o.Kind != api.OutOfFuel || steps != api.MaxFuel+1 {
			t.Errorf("P23.4: %q: %+v behind %d steps, %d", texts, o, steps, e)
		}
	}
}

// TestManyModules: far more than may be are refused, the one that has no object ahead of that, wherever it stands.
func TestManyModules(t *testing.T) {
	t.Parallel()
	ms := slices.Repeat(modules(".extern x"), 300000)
	wantRefused(t, "many modules", ms, "m", badJob(), 0, api.ErrLinkMany)
	wantRefused(t, "many modules, and a bad one at the end", append(ms, api.Module{Externs: []string{"1"}}), "m", badJob(), len(ms), api.ErrSymbolicModule)
}
