package machine

import (
	"bytes"
	"math"
	"math/rand"
	"slices"
	"testing"

	"spindle/api"
	"spindle/isa"
	"spindle/line"
	"spindle/verify"
)

// maker makes images and jobs of chance.
type maker struct {
	*rand.Rand
	functions int
	tables    []api.TableDef
	wild      bool // with instructions that may not be, and branches, calls and tables that lead nowhere
}

// one gives one of a list.
func one[E any](c *maker, list ...E) E { return list[c.Intn(len(list))] }

func (c *maker) table() api.TableDef {
	if c.Intn(2) == 0 {
		return api.TableDef{Kind: api.TableArray, Key: 4, Value: 1 + c.Intn(17), Entries: 1 + c.Intn(4)}
	}
	return api.TableDef{Kind: api.TableHash, Key: 1 + c.Intn(3), Value: 1 + c.Intn(17), Entries: 1 + c.Intn(3)}
}

// access gives an address that most often is one, as a register and a distance: of the frame, of the context (r6) or of a table (r7).
func (c *maker) access() (int, int) {
	switch c.Intn(12) {
	case 0, 1, 2, 3, 4:
		return 10, -8 * (1 + c.Intn(6))
	case 5, 6, 7:
		return 6, c.Intn(20)
	case 8, 9:
		return 7, c.Intn(20)
	case 10:
		return 10, -c.Intn(520)
	}
	return c.Intn(11), c.Intn(40) - 20
}

func (c *maker) reckoning() api.Insn {
	for {
		op := one(c, isa.Ops()...)
		use, _ := isa.Info(op)
		i := api.Insn{Op: op, Dst: c.Intn(6), Off: one(c, 0, 0, 0, 1, 8, 16, 32), Imm: one(c, 0, c.Intn(9)-4, 16, 32, 64, int(int32(c.Uint32())))}
		if use.Src {
			i.Src, i.Imm = c.Intn(11), 0
		}
		if (use.Form == api.FormBinary || use.Form == api.FormUnary) && isa.May(i) == api.OK {
			return i
		}
	}
}

func (c *maker) moving() api.Insn {
	reg, off := c.access()
	switch c.Intn(4) {
	case 0:
		return api.Insn{Op: one(c, 0x71, 0x69, 0x61, 0x79, 0x91, 0x89, 0x81), Dst: c.Intn(6), Src: reg, Off: off}
	case 1:
		return api.Insn{Op: one(c, 0x72, 0x6a, 0x62, 0x7a), Dst: reg, Off: off, Imm: c.Intn(5)}
	case 2:
		return api.Insn{Op: one(c, 0x73, 0x6b, 0x63, 0x7b), Dst: reg, Src: c.Intn(11), Off: off}
	}
	return api.Insn{Op: one(c, 0xdb, 0xc3), Dst: reg, Src: c.Intn(6), Off: off, Imm: one(c, 0x00, 0x40, 0x50, 0xa0, 0x01, 0x41, 0x51, 0xa1, 0xe1, 0xf1)}
}

func (c *maker) branching() api.Insn {
	off := c.Intn(6)
	if c.Intn(4) == 0 {
		off = -c.Intn(6)
	}
	switch c.Intn(8) {
	case 0:
		return api.Insn{Op: 0x05, Off: off}
	case 1:
		return api.Insn{Op: 0x06, Imm: off}
	}
	op := one(c, 0x05, 0x06) + one(c, 0x10, 0x20, 0x30, 0x40, 0x50, 0x60, 0x70, 0xa0, 0xb0, 0xc0, 0xd0)
	if c.Intn(2) == 0 {
		return api.Insn{Op: op + 8, Dst: c.Intn(11), Src: c.Intn(11), Off: off}
	}
	return api.Insn{Op: op, Dst: c.Intn(11), Off: off, Imm: c.Intn(5) - 2}
}

// helping gives a call of a helper with its arguments: the key is one of few, on the frame.
func (c *maker) helping() []api.Insn {
	if len(c.tables) == 0 || c.Intn(5) == 0 {
		return []api.Insn{{Op: 0x85, Imm: one(c, 1, 2, 3, 3, 3, 4)}}
	}
	return []api.Insn{
		{Op: 0x62, Dst: 10, Off: -4, Imm: c.Intn(4)},
		{Op: 0x18, Dst: 1, Src: 1, Imm: c.Intn(len(c.tables))},
		{Op: 0xbf, Dst: 2, Src: 10},
		{Op: 0x07, Dst: 2, Imm: -4},
		{Op: 0xbf, Dst: 3, Src: one(c, 10, 10, 10, 7, 6)},
		{Op: 0x07, Dst: 3, Imm: one(c, -24, -24, 0, -100)},
		{Op: 0xb7, Dst: 4, Imm: one(c, 0, 0, 0, 1, 2, 3)},
		{Op: 0x85, Imm: one(c, 1, 1, 2, 2, 2, 2, 4, 4)},
	}
}

// wildInsn gives an instruction of which nothing need be right.
func (c *maker) wildInsn() api.Insn {
	switch c.Intn(8) {
	case 0:
		return api.Insn{Op: 0x85, Src: 1, Imm: c.Intn(c.functions+2) - 1}
	case 1:
		return api.Insn{Op: 0x18, Dst: c.Intn(11), Src: 1, Imm: c.Intn(len(c.tables)+2) - 1}
	case 2:
		return api.Insn{Op: 0x85, Imm: c.Intn(7) - 1}
	case 3:
		return api.Insn{Op: 0x05, Off: c.Intn(40) - 20}
	case 4:
		return api.Insn{Op: 0xb7, Dst: 10, Imm: 1}
	}
	return api.Insn{Op: c.Intn(256), Dst: c.Intn(16), Src: c.Intn(16), Off: c.Intn(10) - 5, Imm: c.Intn(20) - 10}
}

func (c *maker) part() []api.Insn {
	switch c.Intn(20) {
	case 0, 1, 2, 3:
		return []api.Insn{c.reckoning()}
	case 4, 5, 6, 7, 8:
		return []api.Insn{c.moving()}
	case 9, 10, 11:
		return []api.Insn{c.branching()}
	case 12, 13, 14:
		return c.helping()
	case 15, 16:
		return []api.Insn{{Op: 0x85, Src: 1, Imm: c.Intn(c.functions)}}
	case 17:
		return []api.Insn{{Op: 0x18, Dst: c.Intn(10), Imm: int(one(c, edges()...))}}
	case 18:
		if len(c.tables) > 0 {
			return []api.Insn{{Op: 0x18, Dst: 7, Src: 1, Imm: c.Intn(len(c.tables))}}
		}
	}
	if c.wild {
		return []api.Insn{c.wildInsn()}
	}
	return []api.Insn{{Op: 0x95}}
}

// image gives an image: its functions begin with the context in r6, if it is the entry, and most end with an exit.
func (c *maker) image() api.Image {
	im := api.Image{}
	for k := range c.Intn(4) {
		d := c.table()
		d.Name = string(rune('a'+3*k+c.Intn(3))) + one(c, "", "", "x", "_1")
		im.Tables = append(im.Tables, d)
	}
	c.functions, c.tables = 1+c.Intn(4), im.Tables
	im.Entry = c.Intn(c.functions)
	for k := range c.functions {
		var body []api.Insn
		if k == im.Entry {
			body = append(body, api.Insn{Op: 0xbf, Dst: 6, Src: 1})
		}
		for range 1 + c.Intn(6) {
			body = append(body, c.part()...)
		}
		if !c.wild || c.Intn(8) > 0 {
			body = append(body, api.Insn{Op: 0x95})
		}
		im.Funcs = append(im.Funcs, api.ImgFunc{Name: one(c, "f", "g", "f2"), Object: k, First: len(im.Text), Count: len(body)})
		im.Text = append(im.Text, body...)
	}
	return im
}

// job gives a job that may be.
func (c *maker) job(im api.Image) api.Job {
	job := api.Job{Context: make([]byte, one(c, 0, 1, 8, 24)), Fuel: c.Intn(60)}
	c.Read(job.Context)
	for range c.Intn(3) {
		job.Draws = append(job.Draws, c.Uint64())
	}
	for _, d := range im.Tables {
		if c.Intn(2) == 0 {
			job.Contents = append(job.Contents, api.Contents{Table: d.Name, Entries: c.entries(d)})
		}
	}
	c.Shuffle(len(job.Contents), func(a, b int) { job.Contents[a], job.Contents[b] = job.Contents[b], job.Contents[a] })
	return job
}

func (c *maker) entries(d api.TableDef) []api.Entry {
	var es []api.Entry
	for place := range d.Entries {
		if c.Intn(2) == 0 {
			continue
		}
		key := plainKey(place)
		if d.Kind == api.TableHash {
			key = plainKey((place + c.Intn(2)*3) % 256)[:d.Key]
		}
		value := make([]byte, d.Value)
		c.Read(value)
		if !slices.ContainsFunc(es, func(e api.Entry) bool { return bytes.Equal(e.Key, key) }) {
			es = append(es, api.Entry{Key: key, Value: value, Place: place})
		}
	}
	return es
}

// checkLooks holds what a machine shows against a state.
func checkLooks(t *testing.T, c *maker, im api.Image, m *Machine, f api.Frozen) {
	t.Helper()
	at, regs := api.Place{}, make([]uint64, 11)
	if !f.Over {
		alive := f.Frames[len(f.Frames)-1]
		at, regs = api.Place{Func: alive.Func, At: alive.At}, alive.Regs
	}
	if p, e := m.At(); p != at || e != api.OK {
		t.Fatalf("P22.4: At() = %v, %d, want %v", p, e, at)
	}
	for k, x := range regs {
		if r, e := m.Reg(k); r != x || e != api.OK {
			t.Fatalf("P22.5: Reg(%d) = %#x, %d, want %#x", k, r, e, x)
		}
	}
	s := plainState{im, f}
	for range 3 {
		from, n := one(c, borders()...)+uint64(c.Intn(3)), c.Intn(20)
		want := s.memory(from, n)
		code := api.OK
		if n > 0 && want == nil {
			code = api.FaultMemory
		}
		if b, e := m.Peek(from, n); !bytes.Equal(b, want) || e != code {
			t.Fatalf("P22.6: Peek(%#x, %d) = %v, %d, want %v, %d", from, n, b, e, want, code)
		}
	}
}

// walk makes a run step by step beside the second reading, at times with a machine that was thawed of the state; it counts what was done, and gives the outcome and how many steps took fuel.
func walk(t *testing.T, c *maker, im api.Image, job api.Job, done map[string]int) (api.Outcome, int) {
	t.Helper()
	m := made(t, im, job)
	f, _, e := plainNew(im, job)
	if e != api.OK {
		t.Fatalf("P22.1: New takes a job of which the second reading tells %d", e)
	}
	for steps := 0; ; steps++ {
		if c.Intn(8) == 0 {
			m = thawed(t, im, f)
		}
		g := plainStep(im, f)
		checkStepped(t, im, m, f, g)
		checkLooks(t, c, im, m, g)
		if g.Outcome.Kind != api.Faulted && g.Outcome.Kind != api.OutOfFuel {
			alive := f.Frames[len(f.Frames)-1]
			done[plainMnemonic(im.Text[im.Funcs[alive.Func].First+alive.At])]++
		}
		if g.Over {
			if g.Outcome.Kind != api.OutOfFuel {
				steps++
			}
			return plainOutcome(im, g), steps
		}
		f = g
	}
}

// TestWalks: runs of chance, step by step. The steps and the fuel that is left are the job's fuel, Run comes to the same, and at more and at less fuel it goes through the same steps.
func TestWalks(t *testing.T) {
	t.Parallel()
	c := &maker{Rand: rand.New(rand.NewSource(22))}
	done, ends := map[string]int{}, map[api.Errno]int{}
	kinds := make([]int, 4)
	for n := range 12000 {
		c.wild = n%3 == 0
		im := c.image()
		job := c.job(im)
		o, steps := walk(t, c, im, job, done)
		if steps+o.Fuel != job.Fuel {
			t.Fatalf("P22.9: %d steps, and %d of the fuel %d is left", steps, o.Fuel, job.Fuel)
		}
		if have := ran(t, im, job); !sameOutcome(have, o) {
			t.Fatalf("P22.3: Run = %+v, want %+v", have, o)
		}
		checkFuels(t, c, im, job, o, steps)
		ends[o.Code]++
		kinds[o.Kind]++
	}
	for _, name := range line.Words() {
		if done[name] < 5 {
			t.Errorf("%s was done %d times", name, done[name])
		}
	}
	for _, e := range []api.Errno{api.FaultMemory, api.FaultInsn, api.FaultPlace, api.FaultWrite, api.FaultCall, api.FaultHelper, api.FaultTable, api.FaultDeep} {
		if ends[e] < 20 {
			t.Errorf("the fault %d came %d times: %v", e, ends[e], ends)
		}
	}
	if slices.Min(kinds[1:]) < 1000 {
		t.Errorf("ends by kind: %v", kinds)
	}
}

// checkFuels runs a job with other fuels.
func checkFuels(t *testing.T, c *maker, im api.Image, job api.Job, o api.Outcome, steps int) {
	t.Helper()
	if o.Kind != api.OutOfFuel {
		for _, more := range []int{1, 7, api.MaxFuel - job.Fuel} {
			longer := job
			longer.Fuel += more
			want := o
			want.Fuel += more
			if have := ran(t, im, longer); !sameOutcome(have, want) {
				t.Fatalf("P22.9: with %d more fuel %+v, want %+v", more, have, want)
			}
		}
	}
	if steps == 0 {
		return
	}
	shorter := job
	shorter.Fuel = c.Intn(steps)
	m := made(t, im, job)
	for range shorter.Fuel {
		m.Step()
	}
	at, _ := m.At()
	have := ran(t, im, shorter)
	if f := im.Funcs[at.Func]; have.Kind != api.OutOfFuel || have.At != at.At || have.Func != f.Name || have.Object != f.Object || have.Fuel != 0 {
		t.Fatalf("P22.9: with fuel %d of %d: %+v, and the run stands at %v then", shorter.Fuel, job.Fuel, have, at)
	}
}

// TestVerified: T9. What verify.Check takes has no structural fault, whatever the entry and the job are.
func TestVerified(t *testing.T) {
	t.Parallel()
	c := &maker{Rand: rand.New(rand.NewSource(9))}
	taken, refused := 0, 0
	codes := map[api.Errno]int{}
	for taken < 4000 {
		im := c.image()
		if _, _, e := verify.Check(im); e != api.OK {
			refused++
			continue
		}
		taken++
		for f := range im.Funcs {
			im.Entry = f
			for range 3 {
				o := ran(t, im, c.job(im))
				codes[o.Code]++
				if o.Kind == api.Faulted && o.Code != api.FaultMemory {
					t.Fatalf("T9: an image that verifies comes to %+v: %+v", o, im)
				}
			}
		}
	}
	if codes[api.FaultMemory] < 1000 || codes[api.OK] < 1000 || refused < 1000 {
		t.Errorf("T9: %d refused, faults %v", refused, codes)
	}
}

// TestRefusedAlike: jobs of which something is wrong at times, against the second reading.
func TestRefusedAlike(t *testing.T) {
	t.Parallel()
	c := &maker{Rand: rand.New(rand.NewSource(5)), wild: true}
	told := map[api.Errno]int{}
	for range 30000 {
		im := c.image()
		job := c.job(im)
		for range c.Intn(3) {
			c.spoil(&im, &job)
		}
		f, k, e := plainNew(im, job)
		told[e]++
		m, n, wrong := New(im, job)
		if n != k || wrong != e || (m == nil) != (e != api.OK) {
			t.Fatalf("P22.1: New = %d, %d, want %d, %d; %+v, %+v", n, wrong, k, e, im, job)
		}
		if m != nil && !sameFrozen(frozen(t, m), f) {
			t.Fatalf("P22.1: the beginning of %+v, %+v: %s", im, job, short(frozen(t, m)))
		}
	}
	for _, e := range []api.Errno{api.OK, api.ErrImageEntry, api.ErrImageName, api.ErrMachineContext, api.ErrMachineFuel, api.ErrMachineDraws, api.ErrTablesName, api.ErrTablesTwice, api.ErrTablesPlace, api.ErrTablesKey, api.ErrTablesValue} {
		if told[e] < 100 {
			t.Errorf("%d was told %d times", e, told[e])
		}
	}
}

// spoil changes something.
func (c *maker) spoil(im *api.Image, job *api.Job) {
	switch n := c.Intn(10); {
	case n == 0:
		im.Entry = one(c, -1, len(im.Funcs), math.MaxInt)
	case n == 1:
		im.Funcs[c.Intn(len(im.Funcs))].Name = one(c, "", "1", "f-")
	case n == 2:
		job.Context = make([]byte, one(c, 65536, 65537))
	case n == 3:
		job.Fuel = one(c, -1, 1<<20, 1<<20+1)
	case n == 4:
		job.Draws = make([]uint64, one(c, 65536, 65537))
	case n == 5 || len(job.Contents) == 0:
		job.Contents = append(job.Contents, contents(one(c, "", "none", "f")))
	case n == 6:
		job.Contents = append(job.Contents, one(c, job.Contents...))
	default:
		es := job.Contents[c.Intn(len(job.Contents))].Entries
		if len(es) == 0 {
			return
		}
		e := &es[c.Intn(len(es))]
		switch n {
		case 7:
			e.Place = one(c, -1, 0, 1, 2, 3, 4, 5)
		case 8:
			e.Key = one(c, nil, append(slices.Clone(e.Key), 0), es[0].Key)
		case 9:
			e.Value = one(c, nil, append(slices.Clone(e.Value), 0))
		}
	}
}
