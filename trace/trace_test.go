package trace

import (
	"bytes"
	"fmt"
	"math"
	"reflect"
	"slices"
	"strings"
	"testing"

	"spindle/api"
	"spindle/asm"
	"spindle/image"
	"spindle/link"
	"spindle/machine"
)

// linked gives the image of texts, entry m; `|` stands for LF.
func linked(t *testing.T, texts ...string) api.Image {
	t.Helper()
	var os []api.Object
	for _, text := range texts {
		o, at, e := asm.Assemble([]byte(strings.ReplaceAll(text, "|", "\n")))
		if e != api.OK {
			t.Fatalf("%s: line %d, %d", text, at, e)
		}
		os = append(os, o)
	}
	im, name, e := link.Link(os, "m")
	if e != api.OK {
		t.Fatalf("%q: %s, %d", texts, name, e)
	}
	return im
}

// entryText begins a text with the entry.
const entryText = ".global m|.func m|"

// loopText is the one of the chapter's examples.
const loopText = entryText + "mov r0, 3|x: sub r0, 1|jne r0, 0, x|exit"

// made gives the run of a job that may be.
func made(t *testing.T, im api.Image, job api.Job) *Run {
	t.Helper()
	r, k, e := New(im, job)
	if r == nil || k != 0 || e != api.OK {
		t.Fatalf("P25.1: New of a job that may be = %v, %d, %d", r != nil, k, e)
	}
	return r
}

// again gives the run that was read of bytes that may be.
func again(t *testing.T, im api.Image, b []byte) *Run {
	t.Helper()
	r, at, e := Read(im, b)
	if r == nil || at != 0 || e != api.OK {
		t.Fatalf("P25.7: Read of bytes that may be = %v, %d, %d", r != nil, at, e)
	}
	return r
}

func kept(t *testing.T, r *Run) []byte {
	t.Helper()
	b, e := r.Keep()
	if e != api.OK {
		t.Fatalf("P25.6: Keep = %d", e)
	}
	return b
}

func standsAt(t *testing.T, r *Run) api.Place {
	t.Helper()
	at, e := r.At()
	if e != api.OK {
		t.Fatalf("P25.5: At = %d", e)
	}
	return at
}

// alike tells whether two values are the same, but for nil and empty lists.
func alike(a, b any) bool { return fmt.Sprintf("%+v", a) == fmt.Sprintf("%+v", b) }

// wantRun asks for Run's answer.
func wantRun(t *testing.T, what string, r *Run, n, made int, o api.Outcome, over bool) {
	t.Helper()
	k, have, isOver, e := r.Run(n)
	if k != made || !alike(have, o) || isOver != over || e != api.OK {
		t.Errorf("P25.2: %s: Run(%d) = %d, %+v, %v, %d, want %d, %+v, %v", what, n, k, have, isOver, e, made, o, over)
	}
}

func wantAt(t *testing.T, what string, r *Run, f, at int) {
	t.Helper()
	if p := standsAt(t, r); p != (api.Place{Func: f, At: at}) {
		t.Errorf("P25.5: %s: At = %v, want %d %d", what, p, f, at)
	}
}

// nothing is the outcome of a run that is not over.
func nothing() api.Outcome { return api.Outcome{} }

// TestExamples: the chapter's examples, but for those of Keep and Read.
func TestExamples(t *testing.T) {
	im := linked(t, loopText)
	end := api.Outcome{Kind: api.Returned, Fuel: 92}
	r := made(t, im, api.Job{Fuel: 100})
	wantRun(t, "the loop", r, 0, 0, nothing(), false)
	wantRun(t, "the loop", r, 3, 3, nothing(), false)
	wantAt(t, "the loop", r, 0, 1)
	wantRun(t, "the loop", r, 100, 5, end, true)
	wantRun(t, "the loop", r, 5, 0, end, true)
	wantAt(t, "behind the end", r, 0, 0)

	r = made(t, im, api.Job{Fuel: 100})
	wantBreak(t, r, 0, 2, api.OK)
	wantRun(t, "a breakpoint", r, 100, 2, nothing(), false)
	wantRun(t, "a breakpoint", r, 100, 2, nothing(), false)
	if x, e := r.Reg(0); x != 1 || e != api.OK {
		t.Errorf("P25.5: Reg(0) = %d, %d", x, e)
	}
	wantBreak(t, r, 0, 4, api.ErrTraceForm)
	wantBreak(t, r, 1, 0, api.ErrTraceForm)
	wantUnbreak(t, r, 0, 1, api.ErrTraceForm)

	r = made(t, im, api.Job{Fuel: 2})
	end = api.Outcome{Kind: api.OutOfFuel, Func: "m", At: 2}
	wantRun(t, "no fuel", r, 100, 2, end, true)
	wantRun(t, "no fuel", r, 1, 0, end, true)
}

func wantBreak(t *testing.T, r *Run, f, at int, want api.Errno) {
	t.Helper()
	if e := r.Break(f, at); e != want {
		t.Errorf("P25.3: Break(%d, %d) = %d, want %d", f, at, e, want)
	}
}

func wantUnbreak(t *testing.T, r *Run, f, at int, want api.Errno) {
	t.Helper()
	if e := r.Unbreak(f, at); e != want {
		t.Errorf("P25.4: Unbreak(%d, %d) = %d, want %d", f, at, e, want)
	}
}

// TestNil: R3, each method of a nil run; one that no call has made is taken for one.
func TestNil(t *testing.T) {
	for what, r := range map[string]*Run{"nil": nil, "one of zeros": {}} {
		k, o, over, e := r.Run(3)
		at, e1 := r.At()
		x, e2 := r.Reg(99)
		b, e3 := r.Peek(0, -1)
		kept, e4 := r.Keep()
		for n, e := range []api.Errno{e, r.Break(-1, -1), r.Unbreak(0, 0), e1, e2, e3, e4} {
			if e != api.ErrNil {
				t.Errorf("R3: %s: the call %d = %d", what, n, e)
			}
		}
		if k != 0 || !alike(o, nothing()) || over || at != (api.Place{}) || x != 0 || len(b) != 0 || len(kept) != 0 {
			t.Errorf("R3: %s: %d, %+v, %v, %v, %d, %v, %v", what, k, o, over, at, x, b, kept)
		}
	}
}

// refusals gives images and jobs of which something is wrong.
func refusals(t *testing.T) map[string]struct {
	im  api.Image
	job api.Job
} {
	im := linked(t, ".map h hash 1 3 3|"+loopText)
	turned := func(do func(im *api.Image)) api.Image {
		own := api.Image{Text: slices.Clone(im.Text), Funcs: slices.Clone(im.Funcs), Tables: slices.Clone(im.Tables)}
		do(&own)
		return own
	}
	type row = struct {
		im  api.Image
		job api.Job
	}
	return map[string]row{
		"nothing":                 {api.Image{}, api.Job{}},
		"a wide field":            {turned(func(im *api.Image) { im.Text[2].Off = 1 << 15 }), api.Job{}},
		"a function with no name": {turned(func(im *api.Image) { im.Funcs[0].Name = "" }), api.Job{Fuel: -1}},
		"a table that may not be": {turned(func(im *api.Image) { im.Tables[0].Key = 65 }), api.Job{}},
		"an entry that is none":   {turned(func(im *api.Image) { im.Entry = 1 }), api.Job{}},
		"two functions of a name": {turned(func(im *api.Image) {
			im.Funcs[0].Count = 2
			im.Funcs = append(im.Funcs, api.ImgFunc{Name: "m", First: 2, Count: 2})
		}), api.Job{}},
		"fuel":        {im, api.Job{Fuel: -1}},
		"much fuel":   {im, api.Job{Fuel: api.MaxFuel + 1}},
		"the context": {im, api.Job{Context: make([]byte, api.MaxContext+1)}},
		"draws":       {im, api.Job{Draws: make([]uint64, api.MaxDraws+1)}},
		"no table":    {im, api.Job{Contents: []api.Contents{{Table: "h"}, {Table: "t"}}}},
		"an entry":    {im, api.Job{Contents: []api.Contents{{Table: "h", Entries: []api.Entry{{Place: 3}}}}}},
		"twice":       {im, api.Job{Contents: []api.Contents{{Table: "h"}, {Table: "h"}}}},
	}
}

// TestRefused: P25.1, the error and the number of machine.New; and P25.7, the error of image.Check and 0, whatever the bytes are.
func TestRefused(t *testing.T) {
	for what, c := range refusals(t) {
		_, k, e := machine.New(c.im, c.job)
		if r, n, wrong := New(c.im, c.job); r != nil || n != k || wrong != e || e == api.OK {
			t.Errorf("P25.1: %s: New = %v, %d, %d, want %d, %d", what, r != nil, n, wrong, k, e)
		}
		if _, e = image.Check(c.im); e == api.OK {
			continue
		}
		for _, b := range [][]byte{nil, []byte("TRC1"), make([]byte, 40)} {
			if r, n, wrong := Read(c.im, b); r != nil || n != 0 || wrong != e {
				t.Errorf("P25.7: %s: Read = %v, %d, %d, want 0, %d", what, r != nil, n, wrong, e)
			}
		}
	}
}

// TestCounts: P25.2, each number of steps from each place of a run, of each kind of end.
func TestCounts(t *testing.T) {
	for what, c := range map[string]struct {
		text  string
		steps int
		end   api.Outcome
	}{
		"returned":      {loopText, 8, api.Outcome{Kind: api.Returned, Fuel: 4}},
		"a fault":       {entryText + "mov r0, 1|mov r1, 1|ldxb r0, [r0+0]|exit", 3, api.Outcome{Kind: api.Faulted, Code: api.FaultMemory, Func: "m", At: 2, Fuel: 9}},
		"behind":        {entryText + "mov r0, 1", 2, api.Outcome{Kind: api.Faulted, Code: api.FaultPlace, Func: "m", At: 1, Fuel: 10}},
		"no fuel":       {entryText + "x: ja x", 12, api.Outcome{Kind: api.OutOfFuel, Func: "m"}},
		"just the fuel": {entryText + "mov r0, 5|x: sub r0, 1|jne r0, 0, x|mov r0, 7|exit", 12, api.Outcome{Kind: api.OutOfFuel, Func: "m", At: 4}},
	} {
		im := linked(t, c.text)
		for first := range c.steps + 1 {
			for second := range c.steps + 3 {
				r := made(t, im, api.Job{Fuel: 12})
				isOver := first == c.steps && c.end.Kind != api.OutOfFuel
				o := nothing()
				if isOver {
					o = c.end
				}
				wantRun(t, what, r, first, first, o, isOver)
				most := c.steps - first
				if isOver || second > most || second == most && c.end.Kind != api.OutOfFuel {
					o, isOver = c.end, true
				}
				wantRun(t, what, r, second, min(second, most), o, isOver)
			}
		}
		r := made(t, im, api.Job{Fuel: 12})
		for _, n := range []int{0, -1, math.MinInt} {
			wantRun(t, what, r, n, 0, nothing(), false)
		}
		wantRun(t, what, r, math.MaxInt, c.steps, c.end, true)
		for _, n := range []int{0, -1, math.MinInt, 1, math.MaxInt} {
			wantRun(t, what, r, n, 0, c.end, true)
		}
		// A run of no fuel is not over until a step finds that.
		r = made(t, im, api.Job{})
		wantRun(t, what, r, 0, 0, nothing(), false)
		wantRun(t, what, r, 1, 0, api.Outcome{Kind: api.OutOfFuel, Func: "m"}, true)
	}
}

// twoText has a function that is called twice, so that its places come in two rows, and stand in a frame of their own.
const twoText = entryText + "call f|call f|exit|.func f|mov r0, 1|lddw r3, 5|exit"

// TestBreaks: P25.3 and P25.4.
func TestBreaks(t *testing.T) {
	im := linked(t, twoText)
	r := made(t, im, api.Job{Fuel: 100})
	for f := -2; f < 4; f++ {
		for at := -2; at < 6; at++ {
			want := api.ErrTraceForm
			if (f == 0 || f == 1) && at >= 0 && at < 3 {
				want = api.OK
			}
			wantUnbreak(t, r, f, at, api.ErrTraceForm)
			wantBreak(t, r, f, at, want)
			wantBreak(t, r, f, at, want)
			wantUnbreak(t, r, f, at, want)
			wantUnbreak(t, r, f, at, api.ErrTraceForm)
		}
	}
	for _, n := range []int{math.MinInt, math.MinInt32, math.MaxInt32, 1 << 32, math.MaxInt} {
		for _, m := range []int{n, 0, 1} {
			wantBreak(t, r, n, m, api.ErrTraceForm)
			wantBreak(t, r, m, n, api.ErrTraceForm)
			wantUnbreak(t, r, n, m, api.ErrTraceForm)
			wantUnbreak(t, r, m, n, api.ErrTraceForm)
		}
	}
}

// TestStops: P25.2, where a run stops with some breakpoints.
func TestStops(t *testing.T) {
	im := linked(t, twoText)
	end := api.Outcome{Kind: api.Returned, Word: 1, Fuel: 91}
	r := made(t, im, api.Job{Fuel: 100})
	wantBreak(t, r, 1, 1, api.OK)
	wantBreak(t, r, 0, 0, api.OK)
	wantRun(t, "a breakpoint at the beginning is not asked for", r, 100, 2, nothing(), false)
	wantAt(t, "in the function", r, 1, 1)
	wantRun(t, "nothing is done", r, 0, 0, nothing(), false)
	wantRun(t, "one step", r, 1, 1, nothing(), false)
	wantBreak(t, r, 1, 2, api.OK)
	wantAt(t, "a breakpoint at which it stands", r, 1, 2)
	wantRun(t, "the second call", r, 100, 3, nothing(), false)
	wantAt(t, "the second call", r, 1, 1)
	wantRun(t, "the next place", r, 100, 1, nothing(), false)
	wantUnbreak(t, r, 1, 2, api.OK)
	wantBreak(t, r, 0, 2, api.OK)
	wantRun(t, "fewer steps than to the breakpoint", r, 0, 0, nothing(), false)
	wantRun(t, "the place behind the call", r, 100, 1, nothing(), false)
	wantAt(t, "the place behind the call", r, 0, 2)
	wantRun(t, "to the end", r, 100, 1, end, true)
	wantBreak(t, r, 0, 0, api.OK)
	wantBreak(t, r, 1, 0, api.OK)
	wantUnbreak(t, r, 1, 1, api.OK)
	wantRun(t, "behind the end", r, 100, 0, end, true)

	r = made(t, im, api.Job{Fuel: 2})
	wantBreak(t, r, 1, 1, api.OK)
	wantRun(t, "a breakpoint with no fuel left", r, 2, 2, nothing(), false)
	wantRun(t, "the end there", r, 100, 0, api.Outcome{Kind: api.OutOfFuel, Func: "f", At: 1}, true)

	r = made(t, linked(t, entryText+"x: ja x"), api.Job{Fuel: 5})
	wantBreak(t, r, 0, 0, api.OK)
	for range 5 {
		wantRun(t, "a jump to itself", r, 100, 1, nothing(), false)
	}
	wantRun(t, "a jump to itself", r, 100, 0, api.Outcome{Kind: api.OutOfFuel, Func: "m"}, true)
}

// TestBreaksAreNotKept: neither what is read nor another run has them, and they take no fuel.
func TestBreaksAreNotKept(t *testing.T) {
	im := linked(t, twoText)
	r, other := made(t, im, api.Job{Fuel: 100}), made(t, im, api.Job{Fuel: 100})
	bare := kept(t, r)
	for at := range 3 {
		wantBreak(t, r, 1, at, api.OK)
	}
	if !bytes.Equal(kept(t, r), bare) {
		t.Error("P25.6: breakpoints stand in the bytes")
	}
	w := again(t, im, kept(t, r))
	end := api.Outcome{Kind: api.Returned, Word: 1, Fuel: 91}
	wantUnbreak(t, w, 1, 1, api.ErrTraceForm)
	wantRun(t, "what was read", w, 100, 9, end, true)
	wantRun(t, "another run", other, 100, 9, end, true)
	for range 6 {
		r.Run(100)
	}
	wantRun(t, "with many stops", r, 100, 2, end, true)
}

// TestLooks: P25.5, the machine's answers, and no look changes anything.
func TestLooks(t *testing.T) {
	im, job := busy(t)
	r := made(t, im, job)
	m, _, _ := machine.New(im, job)
	for steps := 0; ; steps++ {
		was := kept(t, r)
		wantLooks(t, r, m)
		if !bytes.Equal(kept(t, r), was) {
			t.Fatalf("P25.5: looking behind %d steps changes something", steps)
		}
		_, _, over, _ := r.Run(1)
		if _, isOver, _ := m.Step(); over != isOver {
			t.Fatalf("P25.2: behind %d steps the run is over: %v", steps, over)
		}
		if over {
			break
		}
	}
	wantLooks(t, r, m)
	// A run that is over by its fuel is looked at too.
	for _, fuel := range []int{0, 20} {
		job.Fuel = fuel
		r = made(t, im, job)
		r.Run(100)
		m, _, _ = machine.New(im, job)
		for range fuel + 1 {
			m.Step()
		}
		wantLooks(t, r, m)
	}
}

// wantLooks holds what a run shows against what a machine does.
func wantLooks(t *testing.T, r *Run, m *machine.Machine) {
	t.Helper()
	p, e := r.At()
	if q, f := m.At(); p != q || e != f {
		t.Fatalf("P25.5: At = %v, %d, want %v, %d", p, e, q, f)
	}
	for k := -2; k < 14; k++ {
		x, e := r.Reg(k)
		if y, f := m.Reg(k); x != y || e != f {
			t.Fatalf("P25.5: Reg(%d) = %#x, %d, want %#x, %d", k, x, e, y, f)
		}
	}
	for _, at := range []uint64{0, 1 << 32, 1<<32 + 2, 2 << 32, 2<<32 - 1, 2<<32 - 512, 2<<32 - 513, 2<<32 - 1024, 16 << 32, 17<<32 + 8, 18 << 32, math.MaxUint64} {
		for _, n := range []int{-1, 0, 1, 3, 8, 512, 513} {
			b, e := r.Peek(at, n)
			if c, f := m.Peek(at, n); !bytes.Equal(b, c) || e != f {
				t.Fatalf("P25.5: Peek(%#x, %d) = %v, %d, want %v, %d", at, n, b, e, c, f)
			}
		}
	}
}

// TestKeepsOutcome: the outcome that is told does not hang on the pieces, and is told again alike.
func TestKeepsOutcome(t *testing.T) {
	im, job := busy(t)
	want, _, _ := machine.Run(im, job)
	for n := 1; n < 40; n++ {
		r := made(t, im, job)
		steps := 0
		for over := false; !over; {
			var k int
			var o api.Outcome
			k, o, over, _ = r.Run(n)
			steps += k
			if over && !reflect.DeepEqual(o, want) || !over && (k != n || !alike(o, nothing())) {
				t.Fatalf("P25.8: pieces of %d: %d steps, %+v, want %+v", n, k, o, want)
			}
		}
		if steps != job.Fuel-want.Fuel {
			t.Errorf("P25.8: pieces of %d: %d steps, want %d", n, steps, job.Fuel-want.Fuel)
		}
		wantRun(t, "again", r, 3, 0, want, true)
	}
}

// busy gives an image with everything in it, and a job.
func busy(t *testing.T) (api.Image, api.Job) {
	im := linked(t, ".map h hash 1 3 3|.map a array 4 5 2|.map i hash 2 9 2|"+entryText+
		"mov r6, 9|stb [r10-1], 7|stb [r1+1], 5|x: ldmap r1, h|mov r2, r10|add r2, -1|mov r3, r10|add r3, -8|mov r4, 0|call 2|call f|sub r6, 1|jne r6, 0, x|exit|"+
		".func f|call 3|add r7, r0|mov r0, r7|ldmap r1, a|stxb [r1+0], r7|stxdw [r10-8], r7|exit")
	job := api.Job{Context: []byte{1, 2, 3}, Fuel: 400, Draws: []uint64{10, 20, 30, 40}, Contents: []api.Contents{
		{Table: "h", Entries: []api.Entry{{Key: []byte("x"), Value: []byte("abc"), Place: 1}}},
		{Table: "a", Entries: []api.Entry{{Key: []byte{1, 0, 0, 0}, Value: []byte("12345"), Place: 1}}},
	}}
	return im, job
}
