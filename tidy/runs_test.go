package tidy

import (
	"math/rand"
	"reflect"
	"slices"
	"testing"

	"spindle/api"
	"spindle/asm"
	"spindle/isa"
	"spindle/link"
	"spindle/machine"
	"spindle/module"
	"spindle/verify"
)

// ran gives the outcome of a run.
func ran(t *testing.T, im api.Image, entry int, job api.Job) api.Outcome {
	t.Helper()
	im.Entry = entry
	o, k, e := machine.Run(im, job)
	if e != api.OK {
		t.Fatalf("Run tells %d, %d; the image: %s", k, e, short(im))
	}
	return o
}

// counts is what runs came to.
type counts struct{ returned, faulted, endless, sooner int }

// wantAlike holds P24.3 of one job, from each function on.
func wantAlike(t *testing.T, im, got api.Image, job api.Job, done *counts) {
	t.Helper()
	for f := range im.Funcs {
		before := ran(t, im, f, job)
		if before.Kind == api.OutOfFuel {
			done.endless++
			continue
		}
		// What ends for another reason than its fuel needs no more than it took.
		less := job
		less.Fuel -= before.Fuel
		for _, j := range []api.Job{job, less} {
			wantOutcome(t, im, got, f, j, done)
		}
	}
}

// wantOutcome holds P24.3 of a run that returns or has a memory fault.
func wantOutcome(t *testing.T, im, got api.Image, f int, job api.Job, done *counts) {
	t.Helper()
	before, after := ran(t, im, f, job), ran(t, got, f, job)
	switch {
	case before.Kind == api.Returned:
		done.returned++
	case before.Code == api.FaultMemory:
		done.faulted++
	default:
		t.Fatalf("T9: a run of what verifies comes to %s; the image: %s", short(before), short(im))
	}
	if after.Fuel > before.Fuel {
		done.sooner++
	}
	if after.Fuel < before.Fuel {
		t.Fatalf("P24.3: from %d on the run has %d fuel left, and %d when it is tidy; the image: %s; given: %s", f, before.Fuel, after.Fuel, short(im), short(got))
	}
	before.Fuel, before.At, after.Fuel, after.At = 0, 0, 0, 0
	if !reflect.DeepEqual(before, after) {
		t.Fatalf("P24.3: from %d on the run comes to %s, and to %s when it is tidy; the image: %s; given: %s", f, short(before), short(after), short(im), short(got))
	}
}

// checkAll holds all that is promised of an image that verifies, for some jobs.
func checkAll(t *testing.T, im api.Image, done *counts, jobs ...api.Job) api.Image {
	t.Helper()
	got := tidiedImage(t, im)
	for _, job := range jobs {
		wantAlike(t, im, got, job, done)
	}
	return got
}

// samples gives instructions for functions of a few: runs go by how many bytes the context has (r2).
func samples() fn {
	is := list(exit(), self(1), lddw(1), api.Insn{Op: 0x07, Imm: 1}, api.Insn{Op: 0x07, Dst: 2, Imm: 1}, api.Insn{Op: 0x71, Src: 1})
	for n := -3; n <= 2; n++ {
		is = append(is, ja(n))
	}
	for n := -2; n <= 1; n++ {
		is = append(is, api.Insn{Op: 0x15, Dst: 2, Imm: 1, Off: n})
	}
	return append(is, ja32(-4))
}

// TestAllSmall: all functions of up to five of some instructions, as far as they verify.
func TestAllSmall(t *testing.T) {
	t.Parallel()
	var done counts
	shorter, taken := 0, 0
	jobs := []api.Job{{Fuel: 30}, {Fuel: 30, Context: []byte{3}}}
	var extend func(f fn)
	extend = func(f fn) {
		if im := cut(f); len(f) > 0 && verified(im) {
			taken++
			if got := checkAll(t, im, &done, jobs...); len(got.Text) < len(f) {
				shorter++
			}
		}
		if len(f) == 5 {
			return
		}
		for _, i := range samples() {
			extend(append(slices.Clip(f), i))
		}
	}
	extend(nil)
	t.Logf("%d taken, %d shorter, %+v", taken, shorter, done)
	if taken < 30000 || shorter < 20000 || done.returned < 20000 || done.faulted < 2000 || done.sooner < 5000 {
		t.Errorf("only %d taken, %d shorter, %+v", taken, shorter, done)
	}
}

func verified(im api.Image) bool {
	_, _, e := verify.Check(im)
	return e == api.OK
}

// maker makes modules and jobs of chance.
type maker struct{ *rand.Rand }

// one gives one of a list.
func one[E any](c maker, list ...E) E { return list[c.Intn(len(list))] }

// reckoning gives one of the instructions that reckon, with each field that may be.
func (c maker) reckoning() api.Insn {
	for {
		i := api.Insn{Op: one(c, isa.Ops()...), Dst: c.Intn(10), Off: one(c, 0, 0, 0, 1, 8, 16, 32), Imm: one(c, 0, c.Intn(9)-4, 16, 32, 64)}
		use, _ := isa.Info(i.Op)
		if use.Src {
			i.Src, i.Imm = one(c, c.Intn(11), i.Dst), 0
		}
		if (use.Form == api.FormBinary || use.Form == api.FormUnary) && isa.May(i) == api.OK {
			return i
		}
	}
}

// moving gives one that loads or stores, most often in the frame or the context.
func (c maker) moving() api.Insn {
	reg, off := one(c, 10, 10, 10, 1, 6, c.Intn(11)), c.Intn(16)
	if reg == 10 {
		off = one(c, -8*(1+c.Intn(6)), -8*(1+c.Intn(6)), -c.Intn(520))
	}
	switch c.Intn(4) {
	case 0:
		return api.Insn{Op: one(c, 0x71, 0x69, 0x61, 0x79, 0x91, 0x89, 0x81), Dst: c.Intn(6), Src: reg, Off: off}
	case 1:
		return api.Insn{Op: one(c, 0x72, 0x6a, 0x62, 0x7a), Dst: reg, Off: off, Imm: c.Intn(5)}
	case 2:
		return api.Insn{Op: one(c, 0x73, 0x6b, 0x63, 0x7b), Dst: reg, Src: c.Intn(11), Off: off}
	}
	return api.Insn{Op: one(c, 0xdb, 0xc3), Dst: reg, Src: c.Intn(6), Off: off, Imm: one(c, 0x00, 0x40, 0x50, 0xa0, 0x01, 0x41, 0x51, 0xa1, 0xe1, 0xf1)}
}

func plain(i api.Insn) api.Step { return api.Step{Insn: i, Branch: -1} }

// helping gives a call of a helper with its arguments: the key is one of few, on the frame.
func (c maker) helping() []api.Step {
	steps := []api.Step{plain(api.Insn{Op: 0x62, Dst: 10, Off: -4, Imm: c.Intn(3)}), {Insn: api.Insn{Op: 0x18, Dst: 1, Src: 1}, Target: one(c, "s", "t"), Branch: -1}}
	for _, i := range list(api.Insn{Op: 0xbf, Dst: 2, Src: 10}, api.Insn{Op: 0x07, Dst: 2, Imm: -4}, api.Insn{Op: 0xbf, Dst: 3, Src: 10}, api.Insn{Op: 0x07, Dst: 3, Imm: -16}, mov(0), helper(one(c, 1, 2, 2, 4))) {
		if i == mov(0) {
			i.Dst, i.Imm = 4, c.Intn(3)
		}
		steps = append(steps, plain(i))
	}
	return steps
}

// part gives some steps of a function; where a branch leads is said when all stand.
func (c maker) part(callees []string) []api.Step {
	switch c.Intn(20) {
	case 0, 1:
		return []api.Step{plain(self(c.Intn(10)))}
	case 2, 3, 4, 5, 6:
		return []api.Step{{Insn: one(c, ja(0), ja32(0))}}
	case 7, 8, 9, 10, 11:
		i := one(c, eachBranch()...)
		i.Dst = c.Intn(7)
		if i.Src == 0 {
			i.Imm = one(c, 0, 1, 2, 5, -1)
		}
		return []api.Step{{Insn: i}}
	case 12:
		return []api.Step{plain(exit())}
	case 13:
		return []api.Step{plain(one(c, helper(3), lddw(c.Int())))}
	case 14:
		return c.helping()
	case 15:
		if len(callees) > 0 {
			return []api.Step{{Insn: api.Insn{Op: 0x85, Src: 1, Imm: -1}, Target: one(c, callees...), Branch: -1}}
		}
	case 16, 17:
		return []api.Step{plain(c.moving())}
	}
	return []api.Step{plain(c.reckoning())}
}

// body gives the steps of a function, each branch with a place to which it leads; the last one is a jump or an exit.
func (c maker) body(most int, callees []string) []api.Step {
	var steps []api.Step
	for range c.Intn(most) {
		steps = append(steps, c.part(callees)...)
	}
	steps = append(steps, one(c, plain(exit()), plain(exit()), api.Step{Insn: ja(0)}, api.Step{Insn: ja32(0)}))
	for at, s := range steps {
		if s.Branch == -1 {
			continue
		}
		steps[at].Branch = c.Intn(len(steps))
		if c.Intn(3) > 0 {
			steps[at].Branch = min(len(steps)-1, max(0, at+c.Intn(6)-1))
		}
	}
	return steps
}

// modules gives two modules that link, with the entry m. Functions call such as stand behind them, so that none is called in a circle.
func (c maker) modules(most int) []api.Module {
	first := api.Module{Externs: []string{"x", "y"}, Tables: []api.TableDef{{Name: "t", Kind: api.TableHash, Key: 4, Value: 8, Entries: 2}}}
	second := api.Module{Tables: []api.TableDef{{Name: "s", Kind: api.TableArray, Key: 4, Value: 12, Entries: 2}, first.Tables[0]}}
	first.Tables = append(first.Tables, second.Tables[0])
	names := []string{"m", "a", "b", "x", "y"}
	for k, name := range names {
		made := &first
		callees := names[k+1:]
		if name == "x" || name == "y" {
			made = &second
		}
		made.Funcs = append(made.Funcs, api.Func{Name: name, Global: made == &second || name == "m", Body: c.body(most, callees)})
	}
	return []api.Module{first, second}
}

// image gives an image of modules of chance.
func (c maker) image(t *testing.T, most int) api.Image {
	t.Helper()
	var os []api.Object
	for _, m := range c.modules(most) {
		if e := module.Check(m); e != api.OK {
			t.Fatalf("module.Check tells %d: %s", e, short(m))
		}
		o, k, e := asm.Object(m)
		if e != api.OK {
			t.Fatalf("asm.Object tells %d, %d: %s", k, e, short(m))
		}
		os = append(os, o)
	}
	im, name, e := link.Link(os, "m")
	if e != api.OK || !verified(im) {
		t.Fatalf("Link tells %q, %d: %s", name, e, short(os))
	}
	return im
}

func (c maker) job() api.Job {
	job := api.Job{Context: make([]byte, one(c, 0, 1, 2, 5, 16)), Draws: make([]uint64, c.Intn(4)), Fuel: 100 + c.Intn(100)}
	c.Read(job.Context)
	for k := range job.Draws {
		job.Draws[k] = uint64(c.Intn(4))
	}
	if c.Intn(2) == 0 {
		job.Contents = []api.Contents{{Table: "t", Entries: []api.Entry{{Key: []byte{1, 0, 0, 0}, Value: []byte("12345678"), Place: c.Intn(2)}}}}
	}
	return job
}

// TestRuns: images of chance, runs from each function on.
func TestRuns(t *testing.T) {
	t.Parallel()
	c := maker{rand.New(rand.NewSource(24))}
	var done counts
	before, after := 0, 0
	for k := range 6000 {
		im := c.image(t, 4+k%24)
		got := checkAll(t, im, &done, c.job(), c.job(), c.job())
		before += len(im.Text)
		after += len(got.Text)
	}
	t.Logf("%d instructions, then %d; %+v", before, after, done)
	if done.returned < 20000 || done.faulted < 5000 || done.sooner < 10000 || after > before*3/4 {
		t.Errorf("only %+v; %d instructions, then %d", done, before, after)
	}
}

// TestEachFuel: at every fuel at which a run ends otherwise, the tidy one does so too.
func TestEachFuel(t *testing.T) {
	t.Parallel()
	c := maker{rand.New(rand.NewSource(3))}
	for range 300 {
		im := c.image(t, 20)
		got := tidiedImage(t, im)
		job := c.job()
		for job.Fuel = range 60 {
			wantAlike(t, im, got, job, &counts{})
		}
	}
}

// TestOnce: one change after the other, each once, leaves none of them anything to do; what went on and on would be slow, of some images very slow. Each tells whether it has changed anything.
func TestOnce(t *testing.T) {
	t.Parallel()
	c := maker{rand.New(rand.NewSource(5))}
	for range 4000 {
		im := c.image(t, 40)
		for f := range im.Funcs {
			b := stepsOf(t, im, f)
			for k, change := range changes() {
				before := slices.Clone(b)
				other, changed := change(b)
				if changed == slices.Equal(before, other) {
					t.Fatalf("the change %d tells %t, and gives %s of %s", k, changed, short(other), short(before))
				}
				b = other
			}
			for k, change := range changes() {
				if _, changed := change(b); changed {
					t.Fatalf("the change %d has something left to do; the image: %s", k, short(im))
				}
			}
		}
	}
}
