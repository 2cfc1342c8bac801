package machine

import (
	"bytes"
	"fmt"
	"slices"
	"sync"
	"testing"

	"spindle/api"
)

// longText gives an image of as many slots as one may have: a function of jumps that lead forth and back over the whole, so that no two steps stand near each other.
func longText() api.Image {
	const n = api.MaxImage
	text := make([]api.Insn, n)
	for k := range n / 2 {
		text[k] = api.Insn{Op: 0x06, Imm: n - 2 - 2*k}
		text[n-1-k] = api.Insn{Op: 0x06, Imm: 2*k + 1 - n}
	}
	text[n/2] = api.Insn{Op: 0x95}
	return oneFunction(text...)
}

// TestLongText: a million jumps through a million slots. What went through the text for each step would take hours.
func TestLongText(t *testing.T) {
	t.Parallel()
	o := ran(t, longText(), api.Job{Fuel: api.MaxFuel})
	if o.Kind != api.Returned || o.Fuel != 0 {
		t.Errorf("P22.3: a million jumps: kind %d, at %d, %d left", o.Kind, o.At, o.Fuel)
	}
	im := longText()
	im.Text = append(im.Text, api.Insn{Op: 0x95})
	im.Funcs[0].Count++
	wantRefused(t, "a slot more", im, api.Job{}, 0, api.ErrImageMany)
}

// TestManyFunctions: as many as an image may have, each of which calls others, and a frozen state of one far behind.
func TestManyFunctions(t *testing.T) {
	t.Parallel()
	im := api.Image{}
	for k := range api.MaxImgFuncs {
		callee := (k*2 + 1) % api.MaxImgFuncs
		im.Funcs = append(im.Funcs, api.ImgFunc{Name: fmt.Sprintf("f%d", k), First: 3 * k, Count: 3})
		im.Text = append(im.Text, api.Insn{Op: 0x18, Dst: 7, Imm: k}, api.Insn{Op: 0x85, Src: 1, Imm: callee}, api.Insn{Op: 0x95})
	}
	im.Entry = 4000
	m := made(t, im, api.Job{Fuel: 100})
	for range 14 {
		m.Step()
	}
	f := frozen(t, m)
	at, _ := m.At()
	if len(f.Frames) != 8 || at.Func != f.Frames[7].Func || at.At != 0 {
		t.Fatalf("P22.7: %d frames, at %v", len(f.Frames), at)
	}
	if g := frozen(t, thawed(t, im, f)); !sameFrozen(g, f) {
		t.Errorf("P22.9: %s, want %s", short(g), short(f))
	}
	o, steps := finish(t, m)
	if o.Code != api.FaultDeep || o.Func != im.Funcs[at.Func].Name || steps != 2 {
		t.Errorf("P22.2: %+v behind %d steps more", o, steps)
	}
}

// manyTables gives an image of as many tables as one may have, and a text that updates one of them without an end.
func manyTables() api.Image {
	im := oneFunction(
		api.Insn{Op: 0x7b, Dst: 10, Src: 6, Off: -8},
		api.Insn{Op: 0x18, Dst: 1, Src: 1, Imm: 1000},
		api.Insn{Op: 0xbf, Dst: 2, Src: 10},
		api.Insn{Op: 0x07, Dst: 2, Imm: -8},
		api.Insn{Op: 0xbf, Dst: 3, Src: 2},
		api.Insn{Op: 0xb7, Dst: 4},
		api.Insn{Op: 0x85, Imm: 2},
		api.Insn{Op: 0x07, Dst: 6, Imm: 1},
		api.Insn{Op: 0x05, Off: -10},
	)
	for k := range api.MaxTables {
		d := api.TableDef{Name: fmt.Sprintf("t%04d", k), Kind: api.TableHash, Key: 8, Value: 8, Entries: 100}
		if k == 1000 {
			d.Entries = api.MaxEntries
		}
		im.Tables = append(im.Tables, d)
	}
	return im
}

// TestManyTables: entries come into one of 1024 tables until it is full.
func TestManyTables(t *testing.T) {
	t.Parallel()
	im := manyTables()
	o := ran(t, im, api.Job{Fuel: api.MaxFuel})
	if o.Kind != api.OutOfFuel || len(o.Tables) != api.MaxTables {
		t.Fatalf("P22.2: kind %d, %d tables", o.Kind, len(o.Tables))
	}
	for k, c := range o.Tables {
		want := 0
		if k == 1000 {
			want = api.MaxEntries
		}
		if c.Table != im.Tables[k].Name || len(c.Entries) != want {
			t.Fatalf("P22.2: the table %d: %s has %d entries", k, c.Table, len(c.Entries))
		}
	}
	last := o.Tables[1000].Entries[api.MaxEntries-1]
	if want := []byte{0xff, 0xff, 0, 0, 0, 0, 0, 0}; !sameEntry(last, api.Entry{Key: want, Value: want, Place: 65535}) {
		t.Errorf("P22.2: the last entry: %v", last)
	}
}

// TestManyEntries: a full table handed in, frozen and thawed, with all contents of a job that has many.
func TestManyEntries(t *testing.T) {
	t.Parallel()
	im := manyTables()
	var job api.Job
	for k, d := range slices.Backward(im.Tables) {
		c := api.Contents{Table: d.Name}
		for place := range d.Entries {
			key := append(plainKey(place*7919%d.Entries+k), 0, 0, 0, 1)
			c.Entries = append(c.Entries, api.Entry{Key: key, Value: key, Place: place})
		}
		job.Contents = append(job.Contents, c)
	}
	job.Fuel = 100
	m := made(t, im, job)
	f := frozen(t, m)
	if len(f.Entries) != api.MaxTables || len(f.Entries[1000].Entries) != api.MaxEntries || len(f.Tables[1000].Data) != 8*api.MaxEntries {
		t.Fatalf("P22.7: %d tables, %d entries", len(f.Entries), len(f.Entries[1000].Entries))
	}
	if g := frozen(t, thawed(t, im, f)); !sameFrozen(g, f) {
		t.Errorf("P22.9: Freeze of what Thaw made is another state")
	}
	o, _ := finish(t, m)
	slices.Reverse(o.Tables)
	if o.Kind != api.OutOfFuel || !slices.EqualFunc(o.Tables, job.Contents, sameContents) {
		t.Errorf("P22.2: the tables are not what was handed in, and no more had room")
	}
	twice := &job.Contents[1000].Entries
	*twice = slices.Clone(*twice)
	(*twice)[len(*twice)-1].Key = (*twice)[0].Key
	wantRefused(t, "a key twice, far behind", im, job, 1000, api.ErrTablesKey)
}

// TestMuchRoom: tables of as many bytes as an image may have.
func TestMuchRoom(t *testing.T) {
	t.Parallel()
	im := oneFunction(api.Insn{Op: 0x18, Dst: 1, Src: 1, Imm: 3}, api.Insn{Op: 0x72, Dst: 1, Off: 4095, Imm: 9}, api.Insn{Op: 0x95})
	for k := range 4 {
		im.Tables = append(im.Tables, api.TableDef{Name: fmt.Sprintf("t%d", k), Kind: api.TableHash, Key: 24, Value: 4064, Entries: 4096})
	}
	f := frozen(t, made(t, im, api.Job{Fuel: 9}))
	f.Tables[3].Data[4096*4064-1] = 5
	m := thawed(t, im, f)
	if b, e := m.Peek(19<<32+4096*4064-2, 2); !bytes.Equal(b, []byte{0, 5}) || e != api.OK {
		t.Errorf("P22.6: the last bytes of a great table: %v, %d", b, e)
	}
	if o, _ := finish(t, m); o.Kind != api.Returned {
		t.Errorf("P22.2: %d, %d", o.Kind, o.Code)
	}
	if b, e := m.Peek(19<<32+4095, 1); !bytes.Equal(b, []byte{9}) || e != api.OK {
		t.Errorf("P22.6: a byte that was stored: %v, %d", b, e)
	}
}

// TestLongRuns: as many steps as a run may have, of each sort.
func TestLongRuns(t *testing.T) {
	t.Parallel()
	for _, c := range []struct {
		text      string
		function  string
		at, draws int
	}{
		{"x: add r0, 1|sub r3, r0|ja x", "m", 1, 0},
		{"x: stxdw [r10-8], r0|ldxdw r3, [r10-8]|afadd [r10-8], r3|ja x", "m", 0, 0},
		{"x: call f|ja x|.func f|exit", "f", 0, 0},
		{"x: call 3|ja x", "m", 0, 1 << 19},
	} {
		o := ran(t, linked(t, entryText+c.text), api.Job{Fuel: api.MaxFuel, Draws: make([]uint64, api.MaxDraws)})
		if o.Kind != api.OutOfFuel || o.Func != c.function || o.At != c.at || o.Draws != c.draws {
			t.Errorf("P22.3: %s: kind %d, %s at %d, %d draws", c.text, o.Kind, o.Func, o.At, o.Draws)
		}
	}
}

// TestManyLooks: looking is no walk through what there is.
func TestManyLooks(t *testing.T) {
	t.Parallel()
	m := made(t, manyTables(), api.Job{Fuel: api.MaxFuel, Context: make([]byte, api.MaxContext)})
	for k := range 300000 {
		m.Step()
		m.At()
		m.Reg(k % 11)
		m.Peek(1<<32+uint64(k)%65536, 1)
	}
	if p, e := m.At(); p != (api.Place{At: 300000 % 9}) || e != api.OK {
		t.Errorf("P22.4: %v, %d", p, e)
	}
}

// TestManyAtOnce: machines have nothing in common, so that they may run side by side.
func TestManyAtOnce(t *testing.T) {
	im, job := busy(t)
	want := ran(t, im, job)
	outcomes := make([]api.Outcome, 16)
	var group sync.WaitGroup
	for k := range outcomes {
		group.Go(func() { outcomes[k], _, _ = Run(im, job) })
	}
	group.Wait()
	for _, o := range outcomes {
		if !sameOutcome(o, want) {
			t.Errorf("P22.10: %+v, want %+v", o, want)
		}
	}
}
