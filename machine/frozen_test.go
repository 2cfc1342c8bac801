package machine

import (
	"bytes"
	"math"
	"math/rand"
	"slices"
	"testing"

	"spindle/api"
	"spindle/isa"
)

// plainMay tells by the chapter's words whether a frozen state may be for an image that may be.
func plainMay(im api.Image, f api.Frozen) bool {
	if len(f.Context) > 65536 || len(f.Draws) > 65536 {
		return false
	}
	if f.Used < 0 || f.Used > 1048576 || f.Fuel < 0 || f.Fuel > 1048576 {
		return false
	}
	if !plainTablesMay(im, f) {
		return false
	}
	o := f.Outcome
	if len(o.Context)+len(o.Tables) > 0 || o.Fuel != 0 || o.Draws != 0 {
		return false
	}
	if f.Over {
		return len(f.Frames) == 0 && plainEndMay(im, f)
	}
	if o.Kind != 0 || o.Word != 0 || o.Code != 0 || o.Func != "" || o.Object != 0 || o.At != 0 {
		return false
	}
	if len(f.Frames) == 0 || len(f.Frames) > 8 || f.Frames[0].Func != im.Entry {
		return false
	}
	for d := range f.Frames {
		if !plainFrameMay(im, f.Frames, d) {
			return false
		}
	}
	return true
}

func plainTablesMay(im api.Image, f api.Frozen) bool {
	if len(f.Tables) != len(im.Tables) {
		return false
	}
	var hashes []api.TableDef
	for k, d := range im.Tables {
		if f.Tables[k].First != uint64(16+k)<<32 || len(f.Tables[k].Data) != d.Entries*plainRow(d) {
			return false
		}
		if d.Kind == api.TableHash {
			hashes = append(hashes, d)
		}
	}
	if len(f.Entries) != len(hashes) {
		return false
	}
	for k, d := range hashes {
		if f.Entries[k].Table != d.Name {
			return false
		}
		es := f.Entries[k].Entries
		for n, e := range es {
			if e.Place < 0 || e.Place >= d.Entries || n > 0 && e.Place <= es[n-1].Place || len(e.Key) != d.Key || len(e.Value) > 0 {
				return false
			}
			for _, ahead := range es[:n] {
				if bytes.Equal(ahead.Key, e.Key) {
					return false
				}
			}
		}
	}
	return true
}

func plainEndMay(im api.Image, f api.Frozen) bool {
	o := f.Outcome
	place := false
	for _, g := range im.Funcs {
		place = place || g.Name == o.Func && g.Object == o.Object && o.At >= 0 && o.At <= g.Count
	}
	switch o.Kind {
	case 1:
		return o.Code == 0 && o.Func == "" && o.Object == 0 && o.At == 0
	case 2:
		return o.Word == 0 && slices.Contains([]api.Errno{200, 220, 221, 222, 223, 224, 225, 226}, o.Code) && place
	case 3:
		return o.Word == 0 && o.Code == 0 && place && f.Fuel == 0
	}
	return false
}

func plainFrameMay(im api.Image, fs []api.Frame, d int) bool {
	f := fs[d]
	if f.Func < 0 || f.Func >= len(im.Funcs) || f.At < 0 || f.At > im.Funcs[f.Func].Count {
		return false
	}
	if len(f.Regs) != 11 || f.Regs[10] != 2<<32-512*uint64(d) || len(f.Bytes) != 512 {
		return false
	}
	if d == len(fs)-1 {
		return true
	}
	if f.At == 0 {
		return false
	}
	for _, x := range f.Regs[:6] {
		if x != 0 {
			return false
		}
	}
	i := im.Text[im.Funcs[f.Func].First+f.At-1]
	return isa.May(i) == api.OK && i.Op == 0x85 && i.Src == 1 && i.Imm == fs[d+1].Func
}

// checkThaw holds Thaw against the second reading, and Freeze of what it made against the state.
func checkThaw(t *testing.T, what string, im api.Image, f api.Frozen) bool {
	t.Helper()
	may := plainMay(im, f)
	m, e := Thaw(im, f)
	if may != (e == api.OK) || !may && e != api.ErrTraceForm || (m == nil) == may {
		t.Fatalf("P22.8: %s: Thaw = %v, %d; it may be: %v; %s", what, m != nil, e, may, short(f))
	}
	if may {
		if g := frozen(t, m); !sameFrozen(g, f) {
			t.Fatalf("P22.9: %s: Freeze of what Thaw made of %s is %s", what, short(f), short(g))
		}
	}
	return may
}

// frozenImage has three functions, one of them recursive, two hash tables and an array among them.
func frozenImage(t *testing.T) api.Image {
	return linked(t, ".map h1 hash 2 3 3|.map h2 hash 1 9 2|.map a array 4 5 2|"+entryText+"mov r6, 5|mov r7, 6|call f|exit|.func f|call 3|call g|call f|exit|.func g|call f|lddw r0, 5|exit")
}

// within gives a state of that image in the midst of a run: m has called f, and that g.
func within(t *testing.T) (api.Image, api.Frozen) {
	im := frozenImage(t)
	f, _, e := plainNew(im, api.Job{Context: []byte{1, 2, 3}, Draws: []uint64{4, 5}, Fuel: 60, Contents: []api.Contents{
		contents("h1", entry("aa", "abc", 0), entry("ab", "def", 2)), contents("h2", entry("x", "123456789", 1)),
	}})
	if e != api.OK {
		t.Fatalf("a job that may not be: %d", e)
	}
	for range 5 {
		f = plainStep(im, f)
	}
	if len(f.Frames) != 3 || f.Frames[2].Func != 2 || f.Used != 1 {
		t.Fatalf("another state than was meant: %s", short(f))
	}
	for k := range f.Tables {
		for n := range f.Tables[k].Data {
			f.Tables[k].Data[n] = byte(5*n + k)
		}
	}
	for d := range f.Frames {
		for n := range f.Frames[d].Bytes {
			f.Frames[d].Bytes[n] = byte(n + d)
		}
	}
	return im, f
}

// ended gives the same behind its end, of each kind.
func ended(t *testing.T, o api.Outcome) (api.Image, api.Frozen) {
	im, f := within(t)
	f.Over, f.Frames, f.Outcome = true, nil, o
	if o.Kind == api.OutOfFuel {
		f.Fuel = 0
	}
	return im, f
}

// change is something that is done to a state, and whether it may be then.
type change struct {
	what string
	do   func(f *api.Frozen)
	may  bool
}

// changesOfAll: those of any state.
func changesOfAll() []change {
	es := func(f *api.Frozen) []api.Entry { return f.Entries[0].Entries }
	return []change{
		{"nothing", func(f *api.Frozen) {}, true},
		{"a context of the most bytes", func(f *api.Frozen) { f.Context = make([]byte, 65536) }, true},
		{"a context that is too long", func(f *api.Frozen) { f.Context = make([]byte, 65537) }, false},
		{"no context", func(f *api.Frozen) { f.Context = nil }, true},
		{"the most draws", func(f *api.Frozen) { f.Draws = make([]uint64, 65536) }, true},
		{"too many draws", func(f *api.Frozen) { f.Draws = make([]uint64, 65537) }, false},
		{"no draws", func(f *api.Frozen) { f.Draws = nil }, true},
		{"more used than there are", func(f *api.Frozen) { f.Used = 1 << 20 }, true},
		{"too many used", func(f *api.Frozen) { f.Used = 1<<20 + 1 }, false},
		{"used below 0", func(f *api.Frozen) { f.Used = -1 }, false},
		{"fuel below 0", func(f *api.Frozen) { f.Fuel = -1 }, false},
		{"too much fuel", func(f *api.Frozen) { f.Fuel = 1<<20 + 1 }, false},
		{"the least fuel", func(f *api.Frozen) { f.Fuel = math.MinInt }, false},
		{"no tables", func(f *api.Frozen) { f.Tables = nil }, false},
		{"a table less", func(f *api.Frozen) { f.Tables = f.Tables[:2] }, false},
		{"a table more", func(f *api.Frozen) { f.Tables = append(f.Tables, api.Region{First: 19 << 32}) }, false},
		{"a table elsewhere", func(f *api.Frozen) { f.Tables[1].First++ }, false},
		{"tables turned", func(f *api.Frozen) { f.Tables[0].First, f.Tables[2].First = f.Tables[2].First, f.Tables[0].First }, false},
		{"a region that is short", func(f *api.Frozen) { f.Tables[2].Data = f.Tables[2].Data[1:] }, false},
		{"a region that is long", func(f *api.Frozen) { f.Tables[0].Data = append(f.Tables[0].Data, 0) }, false},
		{"another byte", func(f *api.Frozen) { f.Tables[0].Data[7]++ }, true},
		{"no entries", func(f *api.Frozen) { f.Entries = nil }, false},
		{"entries of a hash less", func(f *api.Frozen) { f.Entries = f.Entries[:1] }, false},
		{"entries of a hash more", func(f *api.Frozen) { f.Entries = append(f.Entries, api.Contents{Table: "h3"}) }, false},
		{"entries of an array", func(f *api.Frozen) { f.Entries = slices.Insert(f.Entries, 0, api.Contents{Table: "a"}) }, false},
		{"entries of an array for a hash's", func(f *api.Frozen) { f.Entries[0].Table = "a" }, false},
		{"hashes turned", func(f *api.Frozen) { slices.Reverse(f.Entries) }, false},
		{"a hash without a name", func(f *api.Frozen) { f.Entries[1].Table = "" }, false},
		{"a hash without entries", func(f *api.Frozen) { f.Entries[1].Entries = nil }, true},
		{"a hash that is full", func(f *api.Frozen) {
			f.Entries[0].Entries = []api.Entry{entry("bb", "", 0), entry("aa", "", 1), entry("cc", "", 2)}
		}, true},
		{"a place below 0", func(f *api.Frozen) { es(f)[0].Place = -1 }, false},
		{"a place that is too great", func(f *api.Frozen) { es(f)[1].Place = 3 }, false},
		{"places that fall", func(f *api.Frozen) { es(f)[0].Place, es(f)[1].Place = 2, 0 }, false},
		{"a place twice", func(f *api.Frozen) { es(f)[0].Place = 2 }, false},
		{"other places", func(f *api.Frozen) { es(f)[0].Place, es(f)[1].Place = 1, 2 }, true},
		{"a key twice", func(f *api.Frozen) { es(f)[1].Key = []byte("aa") }, false},
		{"a short key", func(f *api.Frozen) { es(f)[1].Key = []byte("a") }, false},
		{"a long key", func(f *api.Frozen) { es(f)[1].Key = []byte("abc") }, false},
		{"a value", func(f *api.Frozen) { es(f)[1].Value = []byte{0} }, false},
		{"a value of the table's size", func(f *api.Frozen) { es(f)[0].Value = []byte("abc") }, false},
		{"an empty value", func(f *api.Frozen) { es(f)[0].Value = []byte{} }, true},
		{"an outcome's context", func(f *api.Frozen) { f.Outcome.Context = []byte{1, 2, 3} }, false},
		{"an empty one", func(f *api.Frozen) { f.Outcome.Context, f.Outcome.Tables = []byte{}, []api.Contents{} }, true},
		{"an outcome's tables", func(f *api.Frozen) { f.Outcome.Tables = []api.Contents{{}} }, false},
		{"an outcome's fuel", func(f *api.Frozen) { f.Outcome.Fuel = 60 }, false},
		{"an outcome's draws", func(f *api.Frozen) { f.Outcome.Draws = 1 }, false},
		{"over or not", func(f *api.Frozen) { f.Over = !f.Over }, false},
	}
}

// changesWithin: those of a run that is not over.
func changesWithin() []change {
	frame := func(k int, do func(f *api.Frame)) func(f *api.Frozen) {
		return func(f *api.Frozen) { do(&f.Frames[k]) }
	}
	return []change{
		{"no fuel", func(f *api.Frozen) { f.Fuel = 0 }, true},
		{"the most fuel", func(f *api.Frozen) { f.Fuel, f.Used = 1<<20, 1<<20 }, true},
		{"a kind", func(f *api.Frozen) { f.Outcome.Kind = 1 }, false},
		{"a word", func(f *api.Frozen) { f.Outcome.Word = 1 }, false},
		{"a code", func(f *api.Frozen) { f.Outcome.Code = api.FaultMemory }, false},
		{"a function's name", func(f *api.Frozen) { f.Outcome.Func = "m" }, false},
		{"an object", func(f *api.Frozen) { f.Outcome.Object = 1 }, false},
		{"a place", func(f *api.Frozen) { f.Outcome.At = 1 }, false},
		{"no frames", func(f *api.Frozen) { f.Frames = nil }, false},
		{"a frame less", func(f *api.Frozen) { f.Frames = f.Frames[:2] }, true},
		{"the entry's alone", func(f *api.Frozen) { f.Frames = f.Frames[:1] }, true},
		{"the entry's gone", func(f *api.Frozen) { f.Frames = f.Frames[1:] }, false},
		{"another entry", frame(0, func(f *api.Frame) { f.Func = 1 }), false},
		{"another function", frame(2, func(f *api.Frame) { f.Func, f.At = 0, 0 }), false},
		{"a function below 0", frame(2, func(f *api.Frame) { f.Func = -1 }), false},
		{"a function of none", frame(2, func(f *api.Frame) { f.Func = 3 }), false},
		{"the alive place 0", frame(2, func(f *api.Frame) { f.At = 0 }), true},
		{"the alive place behind the last", frame(2, func(f *api.Frame) { f.At = 3 }), true},
		{"the alive place farther", frame(2, func(f *api.Frame) { f.At = 4 }), false},
		{"the alive place below 0", frame(2, func(f *api.Frame) { f.At = -1 }), false},
		{"a caller at 0", frame(1, func(f *api.Frame) { f.At = 0 }), false},
		{"a caller behind the call of a helper", frame(1, func(f *api.Frame) { f.At = 1 }), false},
		{"a caller behind another call", frame(1, func(f *api.Frame) { f.At = 3 }), false},
		{"a caller behind the last", frame(1, func(f *api.Frame) { f.At = 4 }), false},
		{"a caller farther", frame(1, func(f *api.Frame) { f.At = 5 }), false},
		{"a caller far away", frame(0, func(f *api.Frame) { f.At = math.MaxInt }), false},
		{"a caller below 0", frame(0, func(f *api.Frame) { f.At = math.MinInt }), false},
		{"registers that are none", frame(1, func(f *api.Frame) { f.Regs = nil }), false},
		{"ten registers", frame(2, func(f *api.Frame) { f.Regs = f.Regs[:10] }), false},
		{"twelve registers", frame(2, func(f *api.Frame) { f.Regs = append(f.Regs, 0) }), false},
		{"another r10", frame(2, func(f *api.Frame) { f.Regs[10] += 512 }), false},
		{"another r10 of a caller", frame(1, func(f *api.Frame) { f.Regs[10]-- }), false},
		{"other registers", frame(2, func(f *api.Frame) { copy(f.Regs, []uint64{9, 8, 7, 6, 5, 4, 3, 2, 1, math.MaxUint64}) }), true},
		{"r0 of a caller", frame(1, func(f *api.Frame) { f.Regs[0] = 1 }), false},
		{"r5 of a caller", frame(0, func(f *api.Frame) { f.Regs[5] = 1 }), false},
		{"r6 to r9 of a caller", frame(0, func(f *api.Frame) { copy(f.Regs[6:], []uint64{6, 7, 8, 9}) }), true},
		{"bytes that are none", frame(0, func(f *api.Frame) { f.Bytes = nil }), false},
		{"511 bytes", frame(2, func(f *api.Frame) { f.Bytes = f.Bytes[1:] }), false},
		{"513 bytes", frame(1, func(f *api.Frame) { f.Bytes = append(f.Bytes, 0) }), false},
		{"other bytes", frame(1, func(f *api.Frame) { f.Bytes[511]++ }), true},
		{"eight frames", func(f *api.Frozen) { f.Frames = deeper(f.Frames, 8) }, true},
		{"nine frames", func(f *api.Frozen) { f.Frames = deeper(f.Frames, 9) }, false},
	}
}

// deeper gives so many frames, in which g has called f, which has called itself.
func deeper(fs []api.Frame, n int) []api.Frame {
	fs[2].At = 1
	clear(fs[2].Regs[:6])
	for d := 3; d < n; d++ {
		f := api.Frame{Func: 1, At: 3, Regs: make([]uint64, 11), Bytes: make([]byte, 512)}
		f.Regs[7], f.Regs[10] = uint64(d), 2<<32-512*uint64(d)
		fs = append(fs, f)
	}
	return fs
}

// changesOver: those of a run that is over, of each kind.
func changesOver(kind int) []change {
	placed, returned := kind != api.Returned, kind == api.Returned
	all := []change{
		{"a frame", func(f *api.Frozen) {
			f.Frames = []api.Frame{{Regs: []uint64{0, 0, 0, 0, 0, 0, 0, 0, 0, 0, 2 << 32}, Bytes: make([]byte, 512)}}
		}, false},
		{"no kind", func(f *api.Frozen) { f.Outcome.Kind = 0 }, false},
		{"another kind", func(f *api.Frozen) { f.Outcome.Kind = 4 }, false},
		{"a kind below 0", func(f *api.Frozen) { f.Outcome.Kind = -1 }, false},
		{"an outcome of zeros", func(f *api.Frozen) { f.Outcome = api.Outcome{} }, false},
		{"a word", func(f *api.Frozen) { f.Outcome.Word = math.MaxUint64 }, returned},
		{"another function's name", func(f *api.Frozen) { f.Outcome.Func = "g" }, placed},
		{"a name of none", func(f *api.Frozen) { f.Outcome.Func = "none" }, false},
		{"no name", func(f *api.Frozen) { f.Outcome.Func = "" }, returned},
		{"another object", func(f *api.Frozen) { f.Outcome.Object = 1 }, false},
		{"an object below 0", func(f *api.Frozen) { f.Outcome.Object = -1 }, false},
		{"the place 0", func(f *api.Frozen) { f.Outcome.At = 0 }, true},
		{"the place behind the last", func(f *api.Frozen) { f.Outcome.At = 4 }, placed},
		{"a place farther", func(f *api.Frozen) { f.Outcome.At = 5 }, false},
		{"a place below 0", func(f *api.Frozen) { f.Outcome.At = -1 }, false},
		{"no fuel", func(f *api.Frozen) { f.Fuel = 0 }, true},
		{"fuel", func(f *api.Frozen) { f.Fuel = 1 }, kind != api.OutOfFuel},
		{"the most fuel", func(f *api.Frozen) { f.Fuel = 1 << 20 }, kind != api.OutOfFuel},
	}
	for _, code := range []api.Errno{0, 1, 199, 200, 201, 219, 220, 221, 222, 223, 224, 225, 226, 227, 228, -220} {
		fault := code == 200 || code >= 220 && code <= 226
		all = append(all, change{"the code " + code.Error(), func(f *api.Frozen) { f.Outcome.Code = code }, kind == api.Faulted && fault || kind != api.Faulted && code == 0})
	}
	return all
}

func checkChanges(t *testing.T, im api.Image, f api.Frozen, cs []change) {
	t.Helper()
	for _, c := range cs {
		g := copyFrozen(f)
		c.do(&g)
		if may := checkThaw(t, c.what, im, g); may != c.may {
			t.Errorf("P22.8: %s: it may be: %v, want %v", c.what, may, c.may)
		}
	}
}

// TestChanges: each thing that a state is asked, at its bounds and beside them.
func TestChanges(t *testing.T) {
	im, f := within(t)
	checkChanges(t, im, f, append(changesOfAll(), changesWithin()...))
	for _, o := range []api.Outcome{
		{Kind: api.Returned, Word: 7},
		{Kind: api.Faulted, Code: api.FaultMemory, Func: "f", At: 2},
		{Kind: api.OutOfFuel, Func: "f", At: 2},
	} {
		im, f := ended(t, o)
		checkChanges(t, im, f, append(changesOfAll(), changesOver(o.Kind)...))
	}
}

// TestAlikeFunctions: two functions of one name are told by their objects.
func TestAlikeFunctions(t *testing.T) {
	im, f := ended(t, api.Outcome{Kind: api.Faulted, Code: api.FaultDeep, Func: "f"})
	im.Funcs[2].Name, im.Funcs[2].Object = "f", 3
	for _, c := range []struct {
		object, at int
		may        bool
	}{{0, 4, true}, {0, 5, false}, {3, 3, true}, {3, 4, false}, {1, 0, false}, {2, 0, false}} {
		f.Outcome.Object, f.Outcome.At = c.object, c.at
		if may := checkThaw(t, "functions of one name", im, f); may != c.may {
			t.Errorf("P22.8: f of the object %d at %d: %v", c.object, c.at, may)
		}
	}
}

// TestCallsThatMayNotBe: a caller's instruction ahead must be one that may be.
func TestCallsThatMayNotBe(t *testing.T) {
	im, f := within(t)
	for _, c := range []struct {
		i   api.Insn
		may bool
	}{
		{api.Insn{Op: 0x85, Src: 1, Imm: 2}, true},
		{api.Insn{Op: 0x85, Src: 1, Imm: 1}, false},
		{api.Insn{Op: 0x85, Src: 0, Imm: 2}, false},
		{api.Insn{Op: 0x85, Src: 2, Imm: 2}, false},
		{api.Insn{Op: 0x85, Src: 1, Imm: 2, Dst: 1}, false},
		{api.Insn{Op: 0x85, Src: 1, Imm: 2, Off: 1}, false},
		{api.Insn{Op: 0x8d, Src: 1, Imm: 2}, false},
		{api.Insn{Op: 0x18, Src: 1, Imm: 2}, false},
		{api.Insn{Op: 0x05, Imm: 2}, false},
	} {
		g := im
		g.Text = slices.Clone(im.Text)
		g.Text[im.Funcs[1].First+1] = c.i
		if may := checkThaw(t, "the instruction ahead of a caller's place", g, f); may != c.may {
			t.Errorf("P22.8: a caller behind %+v: %v", c.i, may)
		}
	}
	// A call of what is no function never comes to a callee.
	im.Text[im.Funcs[1].First+1].Imm, f.Frames[2].Func = 3, 3
	if checkThaw(t, "a callee of none", im, f) {
		t.Errorf("P22.8: a callee of none is taken")
	}
}

// TestGoesOn: at each step of a run the state may be, and a machine that is thawed of it goes on as the one that was frozen.
func TestGoesOn(t *testing.T) {
	im := linked(t, ".map h hash 1 3 2|"+entryText+
		"mov r6, 1|stxb [r10-1], r6|stdw [r10-16], 513|call f|call f|mov r9, 3|x: stxb [r10-1], r9|call f|sub r9, 1|jne r9, 0, x|call 3|exit|"+
		".func f|ldmap r1, h|lddw r2, 0x1ffffffff|mov r3, r2|add r3, -15|mov r4, 0|call 2|add r8, 1|stxdw [r10-8], r8|exit")
	job := api.Job{Fuel: 200, Context: []byte{7}, Draws: []uint64{1 << 60}}
	m := made(t, im, job)
	want := ran(t, im, job)
	if want.Kind != api.Returned || len(want.Tables[0].Entries) != 2 || want.Word != 1<<60 {
		t.Fatalf("another run than was meant: %+v", want)
	}
	for steps := 0; ; steps++ {
		f := frozen(t, m)
		if !checkThaw(t, "a state that Freeze gave", im, f) {
			t.Fatalf("P22.9: a state that Freeze gave may not be: %s", short(f))
		}
		if o, _ := finish(t, thawed(t, im, f)); !sameOutcome(o, want) {
			t.Fatalf("P22.9: thawed behind %d steps: %+v, want %+v", steps, o, want)
		}
		if again := frozen(t, m); !sameFrozen(again, f) {
			t.Fatalf("P22.7: Freeze changed something: %s", short(again))
		}
		if f.Over {
			break
		}
		m.Step()
	}
}

// TestUsedBeyond: where Used and Fuel together are above MaxFuel, Used can come above it.
func TestUsedBeyond(t *testing.T) {
	im := linked(t, entryText+"call 3|call 3|exit")
	f := frozen(t, made(t, im, api.Job{Fuel: 3}))
	f.Used = api.MaxFuel - 1
	m := thawed(t, im, f)
	m.Step()
	if f := frozen(t, m); f.Used != api.MaxFuel || !checkThaw(t, "the most used", im, f) {
		t.Errorf("P22.9: used %d", f.Used)
	}
	m.Step()
	if f := frozen(t, m); f.Used != api.MaxFuel+1 || checkThaw(t, "more used", im, f) {
		t.Errorf("P22.9: used %d", f.Used)
	}
	if o, _ := finish(t, m); o.Kind != api.Returned || o.Draws != api.MaxFuel+1 {
		t.Errorf("P22.9: %+v", o)
	}
}

// TestChangedStates: states of runs of chance, with changes of chance, against the second reading; those that may be go on as the second reading says.
func TestChangedStates(t *testing.T) {
	t.Parallel()
	c := &maker{Rand: rand.New(rand.NewSource(8))}
	count := map[bool]int{}
	for range 6000 {
		im := c.image()
		f, _, _ := plainNew(im, c.job(im))
		for range c.Intn(20) {
			f = plainStep(im, f)
		}
		if !checkThaw(t, "a state of a run", im, f) {
			t.Fatalf("P22.9: a state of a run may not be: %s", short(f))
		}
		for range 4 {
			g := copyFrozen(f)
			for range 1 + c.Intn(2) {
				c.change(im, &g)
			}
			may := checkThaw(t, "a changed state", im, g)
			count[may]++
			for may && !g.Over {
				g = checkStep(t, im, g)
				// Used may have come above its bound.
				may = c.Intn(4) > 0 && plainMay(im, g)
			}
		}
	}
	if count[true] < 5000 || count[false] < 5000 {
		t.Errorf("states that may be and that may not: %v", count)
	}
}

// change changes something of a state.
func (c *maker) change(im api.Image, f *api.Frozen) {
	o := &f.Outcome
	switch c.Intn(8) {
	case 0:
		*one(c, &f.Used, &f.Fuel) = one(c, -1, 0, 1, 5, 1<<20, 1<<20+1)
	case 1:
		*one(c, &o.Kind, &o.Object, &o.At, &o.Fuel, &o.Draws) = c.Intn(5) - 1
	case 2:
		o.Code, o.Word = one(c, o.Code, 0, 200, 201, 220, 226, 227), one(c, o.Word, 0, 1)
	case 3:
		o.Func = one(c, "", "f", "g", "f2")
	case 4:
		f.Over = !f.Over
		f.Outcome = api.Outcome{Kind: c.Intn(4), Func: one(c, im.Funcs...).Name, Object: c.Intn(4), At: c.Intn(9) - 1}
		f.Frames = nil
	case 5, 6:
		if len(f.Frames) > 0 {
			c.changeFrame(&f.Frames[c.Intn(len(f.Frames))])
		}
	case 7:
		if len(f.Entries) > 0 {
			es := &f.Entries[c.Intn(len(f.Entries))].Entries
			*es = append(*es, api.Entry{Key: plainKey(c.Intn(5))[:1+c.Intn(3)], Place: c.Intn(5) - 1})
		}
	}
}

func (c *maker) changeFrame(f *api.Frame) {
	switch c.Intn(4) {
	case 0:
		f.Func = c.Intn(5) - 1
	case 1:
		f.At = c.Intn(9) - 1
	case 2:
		f.Regs[c.Intn(10)] = one(c, edges()...)
	case 3:
		f.Bytes[c.Intn(512)]++
	}
}
