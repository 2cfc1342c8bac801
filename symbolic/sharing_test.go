package symbolic

import (
	"fmt"
	"reflect"
	"slices"
	"sync"
	"testing"

	"spindle/api"
)

// roomy gives a copy of a value in which each list has spare room behind it.
func roomy[V any](x V) V {
	v := reflect.ValueOf(&x).Elem()
	widen(v)
	return x
}

func widen(v reflect.Value) {
	switch v.Kind() {
	case reflect.Struct:
		for k := range v.NumField() {
			widen(v.Field(k))
		}
	case reflect.Slice:
		wide := reflect.MakeSlice(v.Type(), v.Len()+3, v.Len()+3)
		reflect.Copy(wide, v)
		for k := range v.Len() {
			widen(wide.Index(k))
		}
		v.Set(wide.Slice(0, v.Len()))
	}
}

// whole tells a value with the spare room of its lists.
func whole(v reflect.Value) []string {
	switch v.Kind() {
	case reflect.Struct:
		var parts []string
		for k := range v.NumField() {
			parts = append(parts, whole(v.Field(k))...)
		}
		return parts
	case reflect.Slice:
		parts := []string{fmt.Sprint(v.Len())}
		for k := range v.Cap() {
			parts = append(parts, whole(v.Slice(0, v.Cap()).Index(k))...)
		}
		return parts
	}
	return []string{fmt.Sprint(v)}
}

// spoil writes over each list of a value, the inner ones first, and over its spare room.
func spoil(v reflect.Value) {
	switch v.Kind() {
	case reflect.Struct:
		for k := range v.NumField() {
			spoil(v.Field(k))
		}
	case reflect.Slice:
		for k := range v.Cap() {
			item := v.Slice(0, v.Cap()).Index(k)
			spoil(item)
			switch item.Kind() {
			case reflect.Uint8, reflect.Uint64:
				item.SetUint(item.Uint() ^ 0x5a)
			default:
				item.SetZero()
			}
		}
	}
}

// busy gives modules with everything in them, entry m, and a job.
func busy() ([]api.Module, api.Job) {
	ms := modules(
		".extern f|.map h hash 1 3 3|.map a array 4 5 2|.global m|.func l|mov r9, 3|exit|.func m|mov r6, 9|stb [r10-1], 7|stb [r1+1], 5|"+
			"x: ldmap r1, h|mov r2, r10|add r2, -1|mov r3, r10|add r3, -8|mov r4, 0|call 2|call f|call l|sub r6, 1|jne r6, 0, x|exit",
		".map a array 4 5 2|.func m|call 3|exit|.global f|.func f|call m|add r7, r0|mov r0, r7|ldmap r1, a|stxb [r1+0], r7|stxdw [r10-8], r7|exit",
	)
	return ms, api.Job{Context: []byte{1, 2, 3}, Fuel: 400, Draws: []uint64{10, 20, 30, 40, 50, 60, 70, 80, 90}, Contents: []api.Contents{
		contents("h", entry("x", "abc", 1)), contents("a", entry("\x01\x00\x00\x00", "12345", 1)),
	}}
}

// TestBusy: the run of which the other tests here speak is one that returns, and that reads and changes all.
func TestBusy(t *testing.T) {
	ms, job := busy()
	want := api.Outcome{Kind: api.Returned, Word: 90, Context: []byte{1, 5, 3}, Fuel: 198, Draws: 9, Tables: []api.Contents{
		contents("a", entry("\x00\x00\x00\x00", "\x5a\x00\x00\x00\x00", 0), entry("\x01\x00\x00\x00", "12345", 1)),
		contents("h", entry("\x07", "\x00\x00\x00", 0), entry("x", "abc", 1)),
	}}
	if o, _, e := checkAlike(t, ms, "m", job); e != api.OK || !same(o, want) {
		t.Errorf("P23.3: %+v, %d, want %+v", o, e, want)
	}
}

// TestInputsAreLeft: R4. What is handed in is not changed, its spare room neither, whatever is answered.
func TestInputsAreLeft(t *testing.T) {
	ms, job := busy()
	for _, c := range []struct {
		what   string
		entry  string
		change func(ms []api.Module, job *api.Job) []api.Module
		e      api.Errno
	}{
		{"a run", "m", func(ms []api.Module, _ *api.Job) []api.Module { return ms }, api.OK},
		{"a module that has no object", "m", func(ms []api.Module, _ *api.Job) []api.Module { return append(ms, api.Module{Externs: []string{"1"}}) }, api.ErrSymbolicModule},
		{"one module alone", "m", func(ms []api.Module, _ *api.Job) []api.Module { return ms[:1] }, api.ErrLinkUndefined},
		{"an entry that is local", "l", func(ms []api.Module, _ *api.Job) []api.Module { return ms }, api.ErrLinkEntry},
		{"wrong contents", "m", func(ms []api.Module, job *api.Job) []api.Module {
			job.Contents = append(slices.Clone(job.Contents), contents("none"))
			return ms
		}, api.ErrTablesName},
	} {
		ownJob := job
		own := roomy(c.change(ms, &ownJob))
		ownJob = roomy(ownJob)
		was := append(whole(reflect.ValueOf(own)), whole(reflect.ValueOf(ownJob))...)
		if _, _, e := checkAlike(t, own, c.entry, ownJob); e != c.e {
			t.Errorf("P23.1: %s: %d, want %d", c.what, e, c.e)
		}
		if now := append(whole(reflect.ValueOf(own)), whole(reflect.ValueOf(ownJob))...); !slices.Equal(now, was) {
			t.Errorf("R4: %s: what was handed in was changed", c.what)
		}
	}
}

// TestInputsAreNotKept: P23.5. Modules and job may be written over behind New, ahead of the first step or of any other.
func TestInputsAreNotKept(t *testing.T) {
	ms, job := busy()
	want, steps, _ := checkAlike(t, ms, "m", job)
	for ahead := range steps + 2 {
		own, ownJob := roomy(ms), roomy(job)
		m := made(t, own, "m", ownJob)
		for range ahead {
			m.Step()
		}
		spoil(reflect.ValueOf(own))
		spoil(reflect.ValueOf(ownJob))
		if o, _ := finish(t, m); !same(o, want) {
			t.Fatalf("P23.5: written over behind %d steps: %+v, want %+v", ahead, o, want)
		}
	}
}

// TestPartsAreNotKept: each list of a module may be written over, and get other things.
func TestPartsAreNotKept(t *testing.T) {
	ms, job := busy()
	want := ran(t, ms, "m", job)
	for what, change := range map[string]func(ms []api.Module){
		"instructions": func(ms []api.Module) { ms[1].Funcs[1].Body[0].Insn = api.Insn{Op: 0x95} },
		"branches":     func(ms []api.Module) { ms[0].Funcs[1].Body[13].Branch = 13 },
		"targets":      func(ms []api.Module) { ms[0].Funcs[1].Body[10].Target = "l" },
		"functions":    func(ms []api.Module) { ms[0].Funcs[0], ms[0].Funcs[1] = ms[0].Funcs[1], ms[0].Funcs[0] },
		"names":        func(ms []api.Module) { ms[1].Funcs[0].Name, ms[1].Funcs[1].Name = "f", "m" },
		"externs":      func(ms []api.Module) { ms[0].Externs[0] = "none" },
		"tables":       func(ms []api.Module) { ms[0].Tables[0], ms[0].Tables[1] = ms[0].Tables[1], ms[0].Tables[0] },
		"modules":      func(ms []api.Module) { ms[0], ms[1] = ms[1], ms[0] },
	} {
		own := roomy(ms)
		m := made(t, own, "m", job)
		change(own)
		if o, _ := finish(t, m); !same(o, want) {
			t.Errorf("P23.5: %s written over: %+v, want %+v", what, o, want)
		}
	}
}

// TestAnswersAreNew: R4. Whoever writes into an outcome, or appends to its lists, changes nothing else.
func TestAnswersAreNew(t *testing.T) {
	ms, job := busy()
	want := ran(t, ms, "m", job)
	m, other := made(t, ms, "m", job), made(t, ms, "m", job)
	first, _ := finish(t, m)
	second, _, _ := m.Step()
	spoil(reflect.ValueOf(first))
	third, _, _ := m.Step()
	if !same(second, want) || !same(third, want) {
		t.Errorf("R4: an outcome told again: %+v, %+v, want %+v", second, third, want)
	}
	if o, _ := finish(t, other); !same(o, want) {
		t.Errorf("P23.5: another machine: %+v, want %+v", o, want)
	}
	_ = append(third.Context, 1)
	_ = append(third.Tables, api.Contents{Table: "more"})
	for k := range third.Tables {
		_ = append(third.Tables[k].Entries, api.Entry{Place: 9})
		for n := range third.Tables[k].Entries {
			_ = append(third.Tables[k].Entries[n].Key, 1)
			_ = append(third.Tables[k].Entries[n].Value, 1)
		}
	}
	if again, _, _ := m.Step(); !same(third, want) || !same(again, want) {
		t.Errorf("R4: appended to: %+v and %+v, want %+v", third, again, want)
	}
}

// TestSideBySide: P23.5. Machines of the same modules and job go their own ways, one step each in turn or at one time.
func TestSideBySide(t *testing.T) {
	ms, job := busy()
	want, steps, _ := checkAlike(t, ms, "m", job)
	list := make([]*Machine, 5)
	for k := range list {
		list[k] = made(t, ms, "m", job)
	}
	for n := range steps * len(list) {
		for k, m := range list {
			// The machine of the number k makes a step in each k + 1st round.
			if n%(k+1) == 0 {
				m.Step()
			}
		}
	}
	for k, m := range list {
		if o, over, _ := m.Step(); !over || !same(o, want) {
			t.Errorf("P23.5: machine %d: %v, %+v, want %+v", k, over, o, want)
		}
	}
	outcomes := make([]api.Outcome, 16)
	var group sync.WaitGroup
	for k := range outcomes {
		group.Go(func() { outcomes[k], _, _ = Run(ms, "m", job) })
	}
	group.Wait()
	for _, o := range outcomes {
		if !same(o, want) {
			t.Errorf("P23.5: at one time: %+v, want %+v", o, want)
		}
	}
}
