package machine

import (
	"bytes"
	"fmt"
	"math"
	"slices"
	"strings"
	"testing"

	"spindle/api"
	"spindle/asm"
	"spindle/link"
)

// linked gives the image of texts, entry m; `|` stands for LF.
func linked(t *testing.T, texts ...string) api.Image {
	t.Helper()
	var os []api.Object
	for _, text := range texts {
		o, at, e := asm.Assemble([]byte(strings.ReplaceAll(text, "|", "\n")))
		if e != api.OK {
			t.Fatalf("%s: line %d, %d", text, at, e)
		}
		os = append(os, o)
	}
	im, name, e := link.Link(os, "m")
	if e != api.OK {
		t.Fatalf("%q: %s, %d", texts, name, e)
	}
	return im
}

// entryText begins a text with the entry.
const entryText = ".global m|.func m|"

// made gives the machine of a job that may be.
func made(t *testing.T, im api.Image, job api.Job) *Machine {
	t.Helper()
	m, k, e := New(im, job)
	if m == nil || k != 0 || e != api.OK {
		t.Fatalf("P22.1: New of a job that may be = %v, %d, %d", m, k, e)
	}
	return m
}

func ran(t *testing.T, im api.Image, job api.Job) api.Outcome {
	t.Helper()
	o, k, e := Run(im, job)
	if k != 0 || e != api.OK {
		t.Fatalf("P22.3: Run of a job that may be = %d, %d", k, e)
	}
	return o
}

func frozen(t *testing.T, m *Machine) api.Frozen {
	t.Helper()
	f, e := m.Freeze()
	if e != api.OK {
		t.Fatalf("P22.7: Freeze = %d", e)
	}
	return f
}

func thawed(t *testing.T, im api.Image, f api.Frozen) *Machine {
	t.Helper()
	m, e := Thaw(im, f)
	if m == nil || e != api.OK {
		t.Fatalf("P22.8: Thaw of a state that may be = %v, %d", m, e)
	}
	return m
}

// finish makes steps until the run is over.
func finish(t *testing.T, m *Machine) (api.Outcome, int) {
	t.Helper()
	for n := 1; ; n++ {
		o, over, e := m.Step()
		if e != api.OK {
			t.Fatalf("P22.2: Step = %d", e)
		}
		if over {
			return o, n
		}
		if !sameOutcome(o, api.Outcome{}) {
			t.Fatalf("P22.2: a run that is not over tells %+v", o)
		}
	}
}

func sameEntry(a, b api.Entry) bool {
	return bytes.Equal(a.Key, b.Key) && bytes.Equal(a.Value, b.Value) && a.Place == b.Place
}

func sameContents(a, b api.Contents) bool {
	return a.Table == b.Table && slices.EqualFunc(a.Entries, b.Entries, sameEntry)
}

// sameOutcome: nil and empty lists are one.
func sameOutcome(a, b api.Outcome) bool {
	return a.Kind == b.Kind && a.Word == b.Word && a.Code == b.Code && a.Func == b.Func && a.Object == b.Object && a.At == b.At &&
		bytes.Equal(a.Context, b.Context) && slices.EqualFunc(a.Tables, b.Tables, sameContents) && a.Fuel == b.Fuel && a.Draws == b.Draws
}

func sameFrame(a, b api.Frame) bool {
	return a.Func == b.Func && a.At == b.At && slices.Equal(a.Regs, b.Regs) && bytes.Equal(a.Bytes, b.Bytes)
}

func sameRegion(a, b api.Region) bool {
	return a.First == b.First && bytes.Equal(a.Data, b.Data)
}

func sameFrozen(a, b api.Frozen) bool {
	return a.Over == b.Over && sameOutcome(a.Outcome, b.Outcome) && slices.EqualFunc(a.Frames, b.Frames, sameFrame) &&
		bytes.Equal(a.Context, b.Context) && slices.EqualFunc(a.Tables, b.Tables, sameRegion) && slices.EqualFunc(a.Entries, b.Entries, sameContents) &&
		slices.Equal(a.Draws, b.Draws) && a.Used == b.Used && a.Fuel == b.Fuel
}

// short tells a state, of a frame's bytes only those that are not 0.
func short(f api.Frozen) string {
	text := ""
	for d, frame := range f.Frames {
		text += fmt.Sprintf(" frame %d: function %d at %d, %#x,", d, frame.Func, frame.At, frame.Regs)
		for k, b := range frame.Bytes {
			if b != 0 {
				text += fmt.Sprintf(" %d:%d", k, b)
			}
		}
	}
	f.Frames = nil
	return text + fmt.Sprintf(" %+v", f)
}

func TestExamples(t *testing.T) {
	three := []byte{5, 6, 7}
	for _, c := range []struct {
		text string
		job  api.Job
		want api.Outcome
	}{
		{"mov r0, 7|exit", api.Job{Fuel: 100}, api.Outcome{Kind: api.Returned, Word: 7, Fuel: 98}},
		{"mov r0, 7|exit", api.Job{Fuel: 1}, api.Outcome{Kind: api.OutOfFuel, Func: "m", At: 1}},
		{"mov r0, 7|exit", api.Job{}, api.Outcome{Kind: api.OutOfFuel, Func: "m"}},
		{"mov r0, r10|exit", api.Job{Fuel: 100}, api.Outcome{Kind: api.Returned, Word: 2 << 32, Fuel: 98}},
		{"mov r0, r2|exit", api.Job{Fuel: 100, Context: three}, api.Outcome{Kind: api.Returned, Word: 3, Fuel: 98, Context: three}},
		{"ldxb r0, [r1+2]|exit", api.Job{Fuel: 100, Context: three}, api.Outcome{Kind: api.Returned, Word: 7, Fuel: 98, Context: three}},
		{"ldxh r0, [r1+2]|exit", api.Job{Fuel: 100, Context: three}, api.Outcome{Kind: api.Faulted, Code: api.FaultMemory, Func: "m", Fuel: 99, Context: three}},
		{"mov r0, 1", api.Job{Fuel: 100}, api.Outcome{Kind: api.Faulted, Code: api.FaultPlace, Func: "m", At: 1, Fuel: 98}},
		{"mov r10, 1|exit", api.Job{Fuel: 100}, api.Outcome{Kind: api.Faulted, Code: api.FaultWrite, Func: "m", Fuel: 99}},
		{"call 9|exit", api.Job{Fuel: 100}, api.Outcome{Kind: api.Faulted, Code: api.FaultHelper, Func: "m", Fuel: 99}},
		{"call m", api.Job{Fuel: 100}, api.Outcome{Kind: api.Faulted, Code: api.FaultDeep, Func: "m", Fuel: 92}},
		{"call 3|mov r6, r0|call 3|add r0, r6|exit", api.Job{Fuel: 100, Draws: []uint64{5}}, api.Outcome{Kind: api.Returned, Word: 5, Fuel: 95, Draws: 2}},
		{
			".map t hash 1 3 2|stb [r10-1], 9|stdw [r10-16], 513|ldmap r1, t|mov r2, r10|add r2, -1|mov r3, r10|add r3, -16|mov r4, 0|call 2|ldmap r1, t|mov r2, r10|add r2, -1|call 1|ldxdw r0, [r0+0]|exit",
			api.Job{Fuel: 100},
			api.Outcome{Kind: api.Returned, Word: 513, Fuel: 85, Tables: []api.Contents{{Table: "t", Entries: []api.Entry{{Key: []byte{9}, Value: []byte{1, 2, 0}}}}}},
		},
		{"call f|add r0, r6|exit|.func f|mov r6, 4|mov r0, r10|exit", api.Job{Fuel: 100}, api.Outcome{Kind: api.Returned, Word: 2<<32 - 512, Fuel: 94}},
		{"mov32 r0, -1|exit", api.Job{Fuel: 100}, api.Outcome{Kind: api.Returned, Word: 1<<32 - 1, Fuel: 98}},
		{"lddw r0, -7|sdiv r0, 2|exit", api.Job{Fuel: 100}, api.Outcome{Kind: api.Returned, Word: math.MaxUint64 - 2, Fuel: 97}},
		{"mov r0, 258|be16 r0|exit", api.Job{Fuel: 100}, api.Outcome{Kind: api.Returned, Word: 513, Fuel: 97}},
		{"movs8 r0, r2|exit", api.Job{Fuel: 100, Context: make([]byte, 200)}, api.Outcome{Kind: api.Returned, Word: math.MaxUint64 - 55, Fuel: 98, Context: make([]byte, 200)}},
	} {
		if o := ran(t, linked(t, entryText+c.text), c.job); !sameOutcome(o, c.want) {
			t.Errorf("%s: %+v, want %+v", c.text, o, c.want)
		}
	}
	if o, k, e := Run(linked(t, entryText+"mov r0, 7|exit"), api.Job{Fuel: -1}); !sameOutcome(o, api.Outcome{}) || k != 0 || e != api.ErrMachineFuel {
		t.Errorf("P22.3: with fuel -1: %+v, %d, %d", o, k, e)
	}
}

// TestNil: R3, and machines that no call has made.
func TestNil(t *testing.T) {
	for _, m := range []*Machine{nil, {}} {
		if o, over, e := m.Step(); !sameOutcome(o, api.Outcome{}) || over || e != api.ErrNil {
			t.Errorf("P22.2: %v.Step() = %+v, %v, %d", m, o, over, e)
		}
		if p, e := m.At(); p != (api.Place{}) || e != api.ErrNil {
			t.Errorf("P22.4: %v.At() = %v, %d", m, p, e)
		}
		for _, k := range []int{0, 10, 11, -1} {
			if x, e := m.Reg(k); x != 0 || e != api.ErrNil {
				t.Errorf("P22.5: %v.Reg(%d) = %d, %d", m, k, x, e)
			}
		}
		for _, n := range []int{-1, 0, 1} {
			if b, e := m.Peek(1<<32, n); len(b) != 0 || e != api.ErrNil {
				t.Errorf("P22.6: %v.Peek(_, %d) = %v, %d", m, n, b, e)
			}
		}
		if f, e := m.Freeze(); !sameFrozen(f, api.Frozen{}) || e != api.ErrNil {
			t.Errorf("P22.7: %v.Freeze() = %+v, %d", m, f, e)
		}
	}
}

func entry(key, value string, place int) api.Entry {
	return api.Entry{Key: []byte(key), Value: []byte(value), Place: place}
}

func contents(name string, es ...api.Entry) api.Contents {
	return api.Contents{Table: name, Entries: es}
}

// tabled is the text of an entry and three tables, whose names rise otherwise than they stand.
const tabled = ".map h hash 1 3 2|.map b array 4 2 3|.map a hash 2 9 1|" + entryText

func wantRefused(t *testing.T, what string, im api.Image, job api.Job, k int, e api.Errno) {
	t.Helper()
	if m, n, wrong := New(im, job); m != nil || n != k || wrong != e {
		t.Errorf("P22.1: %s: New = %v, %d, %d, want %d, %d", what, m != nil, n, wrong, k, e)
	}
	if o, n, wrong := Run(im, job); !sameOutcome(o, api.Outcome{}) || n != k || wrong != e {
		t.Errorf("P22.3: %s: Run = %+v, %d, %d, want %d, %d", what, o, n, wrong, k, e)
	}
}

// TestRefusedImages: the image goes ahead of all.
func TestRefusedImages(t *testing.T) {
	all := api.Job{Context: make([]byte, 65537), Fuel: -1, Draws: make([]uint64, 65537), Contents: []api.Contents{contents("none")}}
	for _, c := range []struct {
		what   string
		change func(im *api.Image)
		k      int
		e      api.Errno
	}{
		{"more than 4096 functions", func(im *api.Image) { im.Funcs = make([]api.ImgFunc, 4097) }, 1, api.ErrImageMany},
		{"a name of none", func(im *api.Image) { im.Funcs[1].Name = "" }, 1, api.ErrImageName},
		{"tables out of order", func(im *api.Image) { im.Tables[1], im.Tables[2] = im.Tables[2], im.Tables[1] }, 4, api.ErrImageName},
		{"a function of nothing", func(im *api.Image) { im.Funcs[1].Count = 0 }, 1, api.ErrImageFunc},
		{"a key of none", func(im *api.Image) { im.Tables[2].Key = 0 }, 2, api.ErrImageTable},
		{"an entry of none", func(im *api.Image) { im.Entry = 2 }, 0, api.ErrImageEntry},
		{"a register of none", func(im *api.Image) { im.Text[1].Dst = 16 }, 1, api.ErrImageInsn},
	} {
		im := linked(t, tabled+"exit|.func f|exit")
		c.change(&im)
		wantRefused(t, c.what, im, all, c.k, c.e)
		if m, e := Thaw(im, api.Frozen{Fuel: -1}); m != nil || e != c.e {
			t.Errorf("P22.8: %s: Thaw = %v, %d, want %d", c.what, m != nil, e, c.e)
		}
	}
}

// TestRefusedJobs: each limit, and which goes ahead of which.
func TestRefusedJobs(t *testing.T) {
	im := linked(t, tabled+"exit")
	for _, c := range []struct {
		what string
		job  api.Job
		k    int
		e    api.Errno
	}{
		{"a long context, and all else", api.Job{Context: make([]byte, 65537), Fuel: -1, Draws: make([]uint64, 65537), Contents: []api.Contents{contents("none")}}, 0, api.ErrMachineContext},
		{"fuel below 0, and what is behind", api.Job{Fuel: -1, Draws: make([]uint64, 65537), Contents: []api.Contents{contents("none")}}, 0, api.ErrMachineFuel},
		{"the least fuel", api.Job{Fuel: math.MinInt}, 0, api.ErrMachineFuel},
		{"too much fuel", api.Job{Fuel: 1<<20 + 1}, 0, api.ErrMachineFuel},
		{"the most fuel", api.Job{Fuel: math.MaxInt}, 0, api.ErrMachineFuel},
		{"many draws, and what is behind", api.Job{Draws: make([]uint64, 65537), Contents: []api.Contents{contents("none")}}, 0, api.ErrMachineDraws},
		{"a table of none", api.Job{Contents: []api.Contents{contents("none")}}, 0, api.ErrTablesName},
		{"a table without a name", api.Job{Contents: []api.Contents{contents("a"), contents("")}}, 1, api.ErrTablesName},
		{"a function's name", api.Job{Contents: []api.Contents{contents("h"), contents("b"), contents("a"), contents("m")}}, 3, api.ErrTablesName},
		{"a table of none twice", api.Job{Contents: []api.Contents{contents("c"), contents("c")}}, 0, api.ErrTablesName},
		{"a table twice", api.Job{Contents: []api.Contents{contents("h"), contents("a"), contents("h", entry("", "", -1))}}, 2, api.ErrTablesTwice},
		{"a table twice ahead of one of none", api.Job{Contents: []api.Contents{contents("h"), contents("h"), contents("c")}}, 1, api.ErrTablesTwice},
		{"a wrong entry ahead of a table twice", api.Job{Contents: []api.Contents{contents("h", entry("x", "abc", 2)), contents("h")}}, 0, api.ErrTablesPlace},
		{"a place of none", api.Job{Contents: []api.Contents{contents("a"), contents("h", entry("x", "abc", 2))}}, 1, api.ErrTablesPlace},
		{"a place below 0", api.Job{Contents: []api.Contents{contents("h", entry("x", "abc", -1))}}, 0, api.ErrTablesPlace},
		{"places that do not rise", api.Job{Contents: []api.Contents{contents("h", entry("x", "abc", 1), entry("y", "abc", 0))}}, 0, api.ErrTablesPlace},
		{"a long key", api.Job{Contents: []api.Contents{contents("h", entry("xy", "abc", 1))}}, 0, api.ErrTablesKey},
		{"a key twice", api.Job{Contents: []api.Contents{contents("b"), contents("h", entry("x", "abc", 0), entry("x", "abc", 1))}}, 1, api.ErrTablesKey},
		{"an array's key that is not its place", api.Job{Contents: []api.Contents{contents("b", entry("\x01\x00\x00\x00", "ab", 2))}}, 0, api.ErrTablesKey},
		{"a short value", api.Job{Contents: []api.Contents{contents("b", entry("\x01\x00\x00\x00", "a", 1))}}, 0, api.ErrTablesValue},
		{"a long value", api.Job{Contents: []api.Contents{contents("h", entry("x", "abc", 0), entry("y", "abcd", 1))}}, 0, api.ErrTablesValue},
	} {
		wantRefused(t, c.what, im, c.job, c.k, c.e)
	}
}

// TestLimits: at the bound a job is fine.
func TestLimits(t *testing.T) {
	im := linked(t, entryText+"x: ldxb r0, [r1-1]|exit")
	im.Text[0].Off = 0
	context, draws := make([]byte, 65536), make([]uint64, 65536)
	context[0], context[65535], draws[65535] = 3, 4, 5
	o := ran(t, im, api.Job{Context: context, Draws: draws, Fuel: 1 << 20})
	if want := (api.Outcome{Kind: api.Returned, Word: 3, Context: context, Fuel: 1<<20 - 2}); !sameOutcome(o, want) {
		t.Errorf("P22.1: at the limits: kind %d, word %d, fuel %d", o.Kind, o.Word, o.Fuel)
	}
	m := made(t, im, api.Job{Context: context, Draws: draws, Fuel: 1 << 20})
	if f := frozen(t, m); !bytes.Equal(f.Context, context) || !slices.Equal(f.Draws, draws) || f.Fuel != 1<<20 {
		t.Errorf("P22.7: at the limits: the state has another context, other draws or other fuel")
	}
	if b, e := m.Peek(1<<32+65535, 1); !bytes.Equal(b, []byte{4}) || e != api.OK {
		t.Errorf("P22.6: the context's last byte: %v, %d", b, e)
	}
	if _, e := m.Peek(1<<32+65536, 1); e != api.FaultMemory {
		t.Errorf("P22.6: behind the context: %d", e)
	}
}

// TestContents: in any order of the job, and an outcome tells every table by name.
func TestContents(t *testing.T) {
	im := linked(t, tabled+"exit")
	job := api.Job{Fuel: 1, Contents: []api.Contents{
		contents("h", entry("x", "abc", 1)),
		contents("a", entry("kk", "123456789", 0)),
		contents("b", entry("\x01\x00\x00\x00", "yz", 1)),
	}}
	want := []api.Contents{
		contents("a", entry("kk", "123456789", 0)),
		contents("b", entry("\x00\x00\x00\x00", "\x00\x00", 0), entry("\x01\x00\x00\x00", "yz", 1), entry("\x02\x00\x00\x00", "\x00\x00", 2)),
		contents("h", entry("x", "abc", 1)),
	}
	if o := ran(t, im, job); !slices.EqualFunc(o.Tables, want, sameContents) {
		t.Errorf("P22.2: the tables: %v, want %v", o.Tables, want)
	}
	f := frozen(t, made(t, im, job))
	regions := []api.Region{
		{First: 16 << 32, Data: []byte("123456789\x00\x00\x00\x00\x00\x00\x00")},
		{First: 17 << 32, Data: []byte("\x00\x00\x00\x00\x00\x00\x00\x00yz\x00\x00\x00\x00\x00\x00\x00\x00\x00\x00\x00\x00\x00\x00")},
		{First: 18 << 32, Data: []byte("\x00\x00\x00\x00\x00\x00\x00\x00abc\x00\x00\x00\x00\x00")},
	}
	entries := []api.Contents{contents("a", entry("kk", "", 0)), contents("h", entry("x", "", 1))}
	if !slices.EqualFunc(f.Tables, regions, sameRegion) || !slices.EqualFunc(f.Entries, entries, sameContents) {
		t.Errorf("P22.7: the tables: %v, %v, want %v, %v", f.Tables, f.Entries, regions, entries)
	}
	empty := []api.Contents{contents("a"), contents("b", entry("\x00\x00\x00\x00", "\x00\x00", 0), entry("\x01\x00\x00\x00", "\x00\x00", 1), entry("\x02\x00\x00\x00", "\x00\x00", 2)), contents("h")}
	for _, cs := range [][]api.Contents{nil, {}, {contents("h"), contents("b")}} {
		if o := ran(t, im, api.Job{Fuel: 1, Contents: cs}); !slices.EqualFunc(o.Tables, empty, sameContents) {
			t.Errorf("P22.2: tables that are left out: %v, want %v", o.Tables, empty)
		}
	}
}

// TestBeginning: registers, frame and place of a run that has made no step.
func TestBeginning(t *testing.T) {
	im := linked(t, ".func f|exit|"+entryText+"exit")
	for _, context := range [][]byte{nil, {1, 2, 3}} {
		m := made(t, im, api.Job{Context: context, Fuel: 9, Draws: []uint64{8, 7}})
		want := []uint64{0, 1 << 32, uint64(len(context)), 0, 0, 0, 0, 0, 0, 0, 2 << 32}
		for k, x := range want {
			if r, e := m.Reg(k); r != x || e != api.OK {
				t.Errorf("P22.1, P22.5: r%d at the beginning = %d, %d, want %d", k, r, e, x)
			}
		}
		if p, e := m.At(); p != (api.Place{Func: 1}) || e != api.OK {
			t.Errorf("P22.4: at the beginning %v, %d", p, e)
		}
		f := frozen(t, m)
		if !sameFrozen(f, api.Frozen{Frames: []api.Frame{{Func: 1, Regs: want, Bytes: make([]byte, 512)}}, Context: context, Draws: []uint64{8, 7}, Fuel: 9}) {
			t.Errorf("P22.7: at the beginning: %s", short(f))
		}
		for _, k := range []int{-1, 11, 12, math.MinInt, math.MaxInt} {
			if x, e := m.Reg(k); x != 0 || e != api.ErrIsaField {
				t.Errorf("P22.5: Reg(%d) = %d, %d", k, x, e)
			}
		}
	}
}

// TestBehindTheEnd: each kind of end, and what is left to see.
func TestBehindTheEnd(t *testing.T) {
	im := linked(t, ".map t array 4 8 1|"+entryText+"stdw [r10-8], 7|stb [r1+0], 9|call f|exit|.func f|mov r6, 5|jeq r2, 2, a|jeq r2, 3, b|exit|a: x: ja x|b: ldxb r0, [r1+3]|exit")
	for n, want := range []api.Outcome{
		1: {Kind: api.Returned, Word: 0, Fuel: 3},
		2: {Kind: api.OutOfFuel, Func: "f", At: 4},
		3: {Kind: api.Faulted, Code: api.FaultMemory, Func: "f", At: 5, Fuel: 3},
	} {
		if n == 0 {
			continue
		}
		context := make([]byte, n)
		m := made(t, im, api.Job{Context: context, Fuel: 11 - n/3})
		o, _ := finish(t, m)
		want.Context, want.Tables = append([]byte{9}, context[1:]...), []api.Contents{contents("t", entry("\x00\x00\x00\x00", "\x00\x00\x00\x00\x00\x00\x00\x00", 0))}
		if !sameOutcome(o, want) {
			t.Errorf("P22.2: %+v, want %+v", o, want)
		}
		for range 3 {
			if again, over, e := m.Step(); !sameOutcome(again, want) || !over || e != api.OK {
				t.Errorf("P22.2: told again: %+v, %v, %d, want %+v", again, over, e, want)
			}
		}
		if p, e := m.At(); p != (api.Place{}) || e != api.OK {
			t.Errorf("P22.4: behind the end: %v, %d", p, e)
		}
		for k := range 11 {
			if x, e := m.Reg(k); x != 0 || e != api.OK {
				t.Errorf("P22.5: behind the end: r%d = %d, %d", k, x, e)
			}
		}
		if x, e := m.Reg(11); x != 0 || e != api.ErrIsaField {
			t.Errorf("P22.5: behind the end: Reg(11) = %d, %d", x, e)
		}
		wantPeeks(t, m, map[uint64]int{1 << 32: 1, 16 << 32: 8}, []uint64{2<<32 - 1, 2<<32 - 8, 2<<32 - 512, 2<<32 - 513, 2<<32 - 1024})
		bare := api.Outcome{Kind: want.Kind, Word: want.Word, Code: want.Code, Func: want.Func, At: want.At}
		if f := frozen(t, m); !sameFrozen(f, api.Frozen{Over: true, Outcome: bare, Context: want.Context, Tables: []api.Region{{First: 16 << 32, Data: make([]byte, 8)}}, Fuel: want.Fuel}) {
			t.Errorf("P22.7: behind the end: %s", short(f))
		}
	}
}

// wantPeeks: so many bytes are there at some addresses, and none at others.
func wantPeeks(t *testing.T, m *Machine, there map[uint64]int, none []uint64) {
	t.Helper()
	for at, n := range there {
		if b, e := m.Peek(at, n); len(b) != n || e != api.OK {
			t.Errorf("P22.6: Peek(%#x, %d) = %v, %d", at, n, b, e)
		}
	}
	for _, at := range none {
		if b, e := m.Peek(at, 1); len(b) != 0 || e != api.FaultMemory {
			t.Errorf("P22.6: Peek(%#x, 1) = %v, %d", at, b, e)
		}
	}
}

// TestPeek: frames come and go, and an access over two is none.
func TestPeek(t *testing.T) {
	im := linked(t, entryText+"stb [r10-1], 3|call f|call f|exit|.func f|stb [r10-1], 4|exit")
	m := made(t, im, api.Job{Fuel: 100, Context: []byte{8, 9}})
	step := func(n int) {
		for range n {
			m.Step()
		}
	}
	peek := func(at uint64, n int, want string, code api.Errno) {
		t.Helper()
		if b, e := m.Peek(at, n); string(b) != want || e != code {
			t.Errorf("P22.6: Peek(%#x, %d) = %q, %d, want %q, %d", at, n, b, e, want, code)
		}
	}
	const top = 2 << 32
	peek(1<<32, 2, "\x08\x09", api.OK)
	peek(1<<32, 3, "", api.FaultMemory)
	peek(1<<32, -1, "", api.FaultMemory)
	peek(12345, 0, "", api.OK)
	peek(math.MaxUint64, 2, "", api.FaultMemory)
	peek(top-513, 1, "", api.FaultMemory)
	step(1)
	peek(top-1, 1, "\x03", api.OK)
	step(2)
	peek(top-1, 1, "\x03", api.OK)
	peek(top-513, 1, "\x04", api.OK)
	peek(top-513, 2, "", api.FaultMemory)
	peek(top-1024, 512, strings.Repeat("\x00", 511)+"\x04", api.OK)
	step(1)
	peek(top-513, 1, "", api.FaultMemory)
	step(1)
	// The frame is a new one, of zeros.
	peek(top-513, 1, "\x00", api.OK)
}

// TestEarlyFaults: which fault goes ahead of which, and that one changes nothing.
func TestEarlyFaults(t *testing.T) {
	im := linked(t, entryText+"exit|exit")
	im.Tables = []api.TableDef{{Name: "t", Kind: api.TableArray, Key: 4, Value: 1, Entries: 1}}
	for _, c := range []struct {
		i    api.Insn
		want api.Errno
	}{
		{api.Insn{}, api.FaultInsn},
		{api.Insn{Op: 0xb7, Dst: 10, Off: 1}, api.FaultInsn},
		{api.Insn{Op: 0xb7, Dst: 11}, api.FaultInsn},
		{api.Insn{Op: 0x18, Dst: 10, Src: 1, Imm: 9}, api.FaultWrite},
		{api.Insn{Op: 0x18, Dst: 9, Src: 1, Imm: 1}, api.FaultTable},
		{api.Insn{Op: 0x18, Dst: 9, Src: 1, Imm: -1}, api.FaultTable},
		{api.Insn{Op: 0x79, Dst: 10, Src: 0}, api.FaultWrite},
		{api.Insn{Op: 0x79, Dst: 9, Src: 0}, api.FaultMemory},
		{api.Insn{Op: 0xdb, Src: 10, Imm: 0x01}, api.FaultWrite},
		{api.Insn{Op: 0xdb, Src: 10, Imm: 0xe1}, api.FaultWrite},
		{api.Insn{Op: 0xdb, Src: 10, Imm: 0xf1}, api.FaultMemory},
		{api.Insn{Op: 0xdb, Src: 10, Imm: 0x00}, api.FaultMemory},
		{api.Insn{Op: 0x7b, Dst: 0, Src: 10}, api.FaultMemory},
		{api.Insn{Op: 0x05, Off: 1}, api.FaultPlace},
		{api.Insn{Op: 0x05, Off: -2}, api.FaultPlace},
		{api.Insn{Op: 0x06, Imm: math.MaxInt32}, api.FaultPlace},
		{api.Insn{Op: 0x06, Imm: math.MinInt32}, api.FaultPlace},
		{api.Insn{Op: 0x55, Dst: 0, Off: 1}, api.FaultPlace},
		{api.Insn{Op: 0x85, Src: 1, Imm: 1}, api.FaultCall},
		{api.Insn{Op: 0x85, Src: 1, Imm: -1}, api.FaultCall},
		{api.Insn{Op: 0x85, Imm: 0}, api.FaultHelper},
		{api.Insn{Op: 0x85, Imm: 5}, api.FaultHelper},
		{api.Insn{Op: 0x85, Imm: -1}, api.FaultHelper},
		{api.Insn{Op: 0x85, Src: 2}, api.FaultInsn},
	} {
		im.Text[0] = c.i
		o := ran(t, im, api.Job{Fuel: 7, Context: []byte{1}, Draws: []uint64{4}})
		want := api.Outcome{Kind: api.Faulted, Code: c.want, Func: "m", Fuel: 6, Context: []byte{1}, Tables: []api.Contents{contents("t", entry("\x00\x00\x00\x00", "\x00", 0))}}
		if !sameOutcome(o, want) {
			t.Errorf("A step: %+v: %+v, want %+v", c.i, o, want)
		}
		if o := ran(t, im, api.Job{}); o.Kind != api.OutOfFuel || o.At != 0 {
			t.Errorf("A step: %+v without fuel: %+v", c.i, o)
		}
	}
}

// TestNinthFrame: a call of no function is told ahead of the ninth frame, and the eighth is fine.
func TestNinthFrame(t *testing.T) {
	im := linked(t, entryText+"add r6, 1|jeq r6, 8, x|call m|exit|x: call m|exit")
	if o := ran(t, im, api.Job{Fuel: 100}); o.Code != api.FaultDeep || o.At != 4 || o.Fuel != 100-7*3-3 {
		t.Errorf("A step: the ninth frame: %+v", o)
	}
	im.Text[4].Imm = 1
	if o := ran(t, im, api.Job{Fuel: 100}); o.Code != api.FaultCall || o.At != 4 {
		t.Errorf("A step: a call of no function from the eighth frame: %+v", o)
	}
	im.Text[4] = api.Insn{Op: 0xbf, Dst: 0, Src: 10}
	if o := ran(t, im, api.Job{Fuel: 100}); o.Kind != api.Returned || o.Word != 2<<32-7*512 {
		t.Errorf("A call: the eighth frame: %+v", o)
	}
}

// TestObjects: a fault is told of the function's own object.
func TestObjects(t *testing.T) {
	im := linked(t, ".func f|exit|"+entryText+".extern g|call f|call g|exit", ".global g|.func f|mov r0, 1|ldxb r0, [r0+0]|exit|.func g|call f|exit")
	if o := ran(t, im, api.Job{Fuel: 100}); !sameOutcome(o, api.Outcome{Kind: api.Faulted, Code: api.FaultMemory, Func: "f", Object: 1, At: 1, Fuel: 94}) {
		t.Errorf("a fault of f of the second object: %+v", o)
	}
	if o := ran(t, im, api.Job{Fuel: 5}); !sameOutcome(o, api.Outcome{Kind: api.OutOfFuel, Func: "f", Object: 1, At: 1}) {
		t.Errorf("the end of the fuel in f of the second object: %+v", o)
	}
}
