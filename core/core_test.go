package core

import (
	"bytes"
	"math"
	"slices"
	"testing"

	"spindle/api"
	"spindle/line"
)

// What each instruction does at all its edges, and all runs, the tests of machine hold (P22.1 to P22.9); here stands what both machines ask of a core.

// shapes are those of two tables, by name.
func shapes() []api.TableDef {
	return []api.TableDef{{Name: "a", Kind: api.TableArray, Key: 4, Value: 3, Entries: 2}, {Name: "h", Kind: api.TableHash, Key: 1, Value: 2, Entries: 2}}
}

// begun gives a core at the beginning of a run.
func begun(t *testing.T) *Core {
	t.Helper()
	c, k, e := Begin(shapes(), api.Job{Context: []byte{5, 6, 7}, Draws: []uint64{40}, Fuel: 2, Contents: []api.Contents{
		{Table: "h", Entries: []api.Entry{{Key: []byte{9}, Value: []byte{1, 2}, Place: 1}}},
	}})
	if c == nil || k != 0 || e != api.OK {
		t.Fatalf("P22.1: Begin of a job that may be = %v, %d, %d", c != nil, k, e)
	}
	return c
}

// do does instructions, each of one line, and gives the first fault.
func do(t *testing.T, c *Core, lines ...string) api.Errno {
	t.Helper()
	for _, text := range lines {
		i, _, e := line.Parse(text)
		if e != api.OK || Fault(i) != api.OK {
			t.Fatalf("%s: %d, %d", text, e, Fault(i))
		}
		s := StepOf(i)
		if e := c.Do(&s); e != api.OK {
			return e
		}
	}
	return api.OK
}

func TestBegin(t *testing.T) {
	c := begun(t)
	if want := [Registers]uint64{1: 1 << 32, 2: 3, 10: 2 << 32}; c.Regs != want || c.Fuel != 2 || c.Used != 0 || !slices.Equal(c.Draws, []uint64{40}) {
		t.Errorf("At the beginning: %#x, fuel %d, draws %v, used %d", c.Regs, c.Fuel, c.Draws, c.Used)
	}
	if b := c.BytesAt(Bottom(0), api.MaxFrame); !bytes.Equal(b, make([]byte, 512)) {
		t.Errorf("At the beginning: the frame %v", b)
	}
	o := c.Told(api.Outcome{Kind: api.Returned, Word: 3})
	if o.Kind != api.Returned || o.Word != 3 || !bytes.Equal(o.Context, []byte{5, 6, 7}) || o.Fuel != 2 || o.Draws != 0 || len(o.Tables) != 2 || o.Tables[1].Table != "h" || len(o.Tables[0].Entries) != 2 || len(o.Tables[1].Entries) != 1 {
		t.Errorf("P22.2: an outcome tells %+v", o)
	}
}

// TestRefused: which goes ahead of which, and the number of the contents that are wrong.
func TestRefused(t *testing.T) {
	none := []api.Contents{{Table: "h"}, {Table: "none"}}
	for _, c := range []struct {
		job api.Job
		k   int
		e   api.Errno
	}{
		{api.Job{Context: make([]byte, api.MaxContext+1), Fuel: -1, Draws: make([]uint64, api.MaxDraws+1), Contents: none}, 0, api.ErrMachineContext},
		{api.Job{Fuel: -1, Draws: make([]uint64, api.MaxDraws+1), Contents: none}, 0, api.ErrMachineFuel},
		{api.Job{Fuel: math.MaxInt}, 0, api.ErrMachineFuel},
		{api.Job{Draws: make([]uint64, api.MaxDraws+1), Contents: none}, 0, api.ErrMachineDraws},
		{api.Job{Contents: none}, 1, api.ErrTablesName},
		{api.Job{Contents: []api.Contents{{Table: "h"}, {Table: "a"}, {Table: "h"}}}, 2, api.ErrTablesTwice},
		{api.Job{Contents: []api.Contents{{Table: "a", Entries: []api.Entry{{Key: make([]byte, 4), Value: make([]byte, 2)}}}}}, 0, api.ErrTablesValue},
	} {
		if got, k, e := Begin(shapes(), c.job); got != nil || k != c.k || e != c.e {
			t.Errorf("P22.1: Begin = %v, %d, %d, want %d, %d", got != nil, k, e, c.k, c.e)
		}
	}
}

func TestFuel(t *testing.T) {
	c := begun(t)
	for k, want := range []bool{true, true, false, false} {
		if c.Burn() != want || c.Fuel != max(0, 1-k) {
			t.Errorf("A step: the fuel %d behind %d", c.Fuel, k+1)
		}
	}
	for n, want := range map[int]bool{-1: false, 0: true, api.MaxFuel: true, api.MaxFuel + 1: false} {
		if IsFuel(n) != want {
			t.Errorf("P22.1: IsFuel(%d) = %v", n, !want)
		}
	}
}

func TestTables(t *testing.T) {
	c := begun(t)
	for name, want := range map[string]int{"a": 0, "h": 1} {
		if k, found := c.TableNamed(name); k != want || !found {
			t.Errorf("P22.1: the table %s: %d, %v", name, k, found)
		}
	}
	for _, name := range []string{"", "b", "z", "aa"} {
		if _, found := c.TableNamed(name); found {
			t.Errorf("P22.1: there is no table %q", name)
		}
	}
	if Handle(0) != 16<<32 || Handle(1023) != 1039<<32 {
		t.Errorf("Handles: %#x, %#x", Handle(0), Handle(1023))
	}
	for d, want := range map[api.TableDef]int{{Value: 1, Entries: 1}: 8, {Value: 8, Entries: 3}: 24, {Value: 9, Entries: 3}: 48, {Value: 4096, Entries: 4000}: 4096 * 4000} {
		if n := RegionSize(d); n != want {
			t.Errorf("Regions: %+v has %d bytes, want %d", d, n, want)
		}
	}
}

// TestIsFault: all numbers of errors.
func TestIsFault(t *testing.T) {
	faults := []api.Errno{api.FaultMemory, api.FaultInsn, api.FaultPlace, api.FaultWrite, api.FaultCall, api.FaultHelper, api.FaultTable, api.FaultDeep}
	for e := api.Errno(-1); e < 70000; e++ {
		if IsFault(e) != slices.Contains(faults, e) {
			t.Errorf("P22.8: IsFault(%d) = %v", e, IsFault(e))
		}
	}
}

// TestFault: the structural faults that hang on an instruction alone.
func TestFault(t *testing.T) {
	for i, want := range map[api.Insn]api.Errno{
		{Op: 0xb7, Dst: 9}:                   api.OK,
		{Op: 0xb7, Dst: 10}:                  api.FaultWrite,
		{Op: 0xb7, Dst: 11}:                  api.FaultInsn,
		{Op: 0xff}:                           api.FaultInsn,
		{Op: 0x7b, Dst: 10, Src: 10}:         api.OK,
		{Op: 0xdb, Dst: 1, Src: 10, Imm: 1}:  api.FaultWrite,
		{Op: 0xdb, Dst: 10, Src: 10, Imm: 0}: api.OK,
		{Op: 0x85}:                           api.FaultHelper,
		{Op: 0x85, Imm: 1}:                   api.OK,
		{Op: 0x85, Imm: 4}:                   api.OK,
		{Op: 0x85, Imm: 5}:                   api.FaultHelper,
		{Op: 0x85, Src: 1, Imm: -1}:          api.OK,
		{Op: 0x18, Dst: 10, Src: 1, Imm: 99}: api.FaultWrite,
		{Op: 0x18, Dst: 1, Src: 1, Imm: 99}:  api.OK,
	} {
		if e := Fault(i); e != want {
			t.Errorf("A step: Fault(%+v) = %d, want %d", i, e, want)
		}
	}
}

func TestDo(t *testing.T) {
	c := begun(t)
	if e := do(t, c, "ldxh r3, [r1+1]", "lsh r3, 8", "neg32 r3", "be32 r3", "stxw [r10-4], r3", "afadd [r10-8], r3", "call 3"); e != api.OK {
		t.Errorf("Instructions: %d", e)
	}
	if want := [Registers]uint64{0: 40, 10: 2 << 32}; c.Regs != want || c.Used != 1 {
		t.Errorf("Helpers: %#x, used %d, want %#x", c.Regs, c.Used, want)
	}
	// 0x070600 below 0 is 0xfff8fa00, and turned round 0x00faf8ff; that is laid above four bytes 0, and then added to the eight.
	if b := c.BytesAt(2<<32-8, 8); !bytes.Equal(b, []byte{0xff, 0xf8, 0xfa, 0x00, 0xff, 0xf8, 0xfa, 0x00}) {
		t.Errorf("Instructions: the frame's end is %x", b)
	}
	was := c.Regs
	if e := do(t, c, "ldxw r0, [r10-3]"); e != api.FaultMemory || c.Regs != was {
		t.Errorf("A step: a fault that changes something: %d, %#x", e, c.Regs)
	}
	s := StepOf(api.Insn{Op: 0x18, Dst: 5, Src: 1, Imm: 1})
	if e := c.Do(&s); e != api.OK || c.Regs[5] != 17<<32 {
		t.Errorf("Instructions: the handle %#x, %d", c.Regs[5], e)
	}
}

func TestHolds(t *testing.T) {
	c := begun(t)
	c.Regs[3], c.Regs[4] = math.MaxUint64, 1
	for i, want := range map[api.Insn]bool{
		{Op: 0x2d, Dst: 3, Src: 4}:  true, // jgt
		{Op: 0x6d, Dst: 3, Src: 4}:  false,
		{Op: 0x16, Dst: 3, Imm: -1}: true,
		{Op: 0x55, Dst: 4, Imm: 1}:  false,
		{Op: 0x05}:                  true,
		{Op: 0x06}:                  true,
	} {
		if s := StepOf(i); c.Holds(&s) != want {
			t.Errorf("Instructions: %+v is taken: %v", i, !want)
		}
	}
}

// TestFrames: a call and the way back.
func TestFrames(t *testing.T) {
	c := begun(t)
	for k := range c.Regs[:TopReg] {
		c.Regs[k] = uint64(100 + k)
	}
	kept := c.Enter(1)
	if want := (Kept{106, 107, 108, 109, 2 << 32}); kept != want || c.Regs[0] != 100 || c.Regs[9] != 109 || c.Regs[TopReg] != 2<<32-512 {
		t.Errorf("A call: kept %v, registers %#x", kept, c.Regs)
	}
	if e := do(t, c, "stxdw [r10-512], r6", "mov r6, 1", "mov r0, 7"); e != api.OK {
		t.Errorf("A call: the frame: %d", e)
	}
	c.Leave(1, kept)
	if want := [Registers]uint64{0: 7, 6: 106, 7: 107, 8: 108, 9: 109, 10: 2 << 32}; c.Regs != want {
		t.Errorf("An exit: %#x, want %#x", c.Regs, want)
	}
	if e := do(t, c, "ldxb r0, [r10-513]"); e != api.FaultMemory {
		t.Errorf("An exit: the frame is still there: %d", e)
	}
	c.Enter(1)
	if e := do(t, c, "ldxdw r3, [r10-512]"); e != api.OK || c.Regs[3] != 0 {
		t.Errorf("A call: a frame that is not of zeros: %d, %#x", e, c.Regs[3])
	}
}
