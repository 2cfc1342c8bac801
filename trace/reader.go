package trace

import (
	"bytes"

	"spindle/api"
	"spindle/core"
	"spindle/isa"
)

// fault is what is thrown where bytes are not those of a run: the place, and the error.
type fault struct {
	place int
	code  api.Errno
}

// reader goes through the bytes of a run over an image, field by field. Its methods give up by panic, with a fault, at the first field that is cut or that may not be.
type reader struct {
	image api.Image
	bytes []byte
	field int // where the field begins that was taken last
	next  int // where the next one does
}

// read gives what bytes say of a run over an image, whose own bytes are handed in too; or the place of what is wrong, and the error. What it gives shares memory with the bytes.
func read(im api.Image, own []byte, b []byte) (f api.Frozen, at int, e api.Errno) {
	defer func() {
		if thrown := recover(); thrown != nil {
			wrong := thrown.(fault)
			f, at, e = api.Frozen{}, wrong.place, wrong.code
		}
	}()
	r := &reader{image: im, bytes: b}
	r.takeOpening()
	r.takeImage(own)
	f = r.takeState()
	r.wantEnd()
	return f, 0, api.OK
}

// take gives the next field, which has so many bytes.
func (r *reader) take(size int) []byte {
	if size > len(r.bytes)-r.next {
		panic(fault{len(r.bytes), api.ErrTraceForm})
	}
	r.field, r.next = r.next, r.next+size
	return r.bytes[r.field:r.next]
}

// want gives up unless the field that was taken last may be.
func (r *reader) want(may bool) {
	if !may {
		panic(fault{r.field, api.ErrTraceForm})
	}
}

// wantEnd gives up if bytes are left.
func (r *reader) wantEnd() {
	if r.next < len(r.bytes) {
		panic(fault{r.next, api.ErrTraceForm})
	}
}

// takeNumber gives the next field, a number of so many bytes, the lowest first.
func (r *reader) takeNumber(size int) uint64 {
	var x uint64
	for k, part := range r.take(size) {
		x |= uint64(part) << (8 * k)
	}
	return x
}

func (r *reader) takeCount() int {
	return int(r.takeNumber(countSize))
}

// takeCountTo gives the next field, which tells how many there are of what has a limit.
func (r *reader) takeCountTo(most int) int {
	n := r.takeCount()
	r.want(n <= most)
	return n
}

func (r *reader) takeOpening() {
	for k := range len(opening) {
		r.want(r.takeNumber(1) == uint64(opening[k]))
	}
}

func (r *reader) takeImage(own []byte) {
	if !bytes.Equal(r.take(r.takeCount()), own) {
		panic(fault{r.field, api.ErrTraceImage})
	}
}

// takeState gives what stands behind the image.
func (r *reader) takeState() api.Frozen {
	var f api.Frozen
	f.Over = r.takeFlag()
	if f.Over {
		f.Outcome = r.takeEnd()
	} else {
		f.Frames = r.takeFrames()
	}
	f.Context = r.take(r.takeCountTo(api.MaxContext))
	f.Tables = r.takeTables()
	f.Entries = r.takeHashes()
	f.Draws = r.takeDraws()
	f.Used = r.takeSteps()
	f.Fuel = r.takeSteps()
	r.want(f.Outcome.Kind != api.OutOfFuel || f.Fuel == 0)
	return f
}

func (r *reader) takeFlag() bool {
	flag := r.takeNumber(flagSize)
	r.want(flag <= 1)
	return flag == 1
}

// takeSteps gives the next field, which tells no more than the most steps that a run may have.
func (r *reader) takeSteps() int {
	n := r.takeNumber(wordSize)
	r.want(n <= api.MaxFuel)
	return int(n)
}

// takeEnd gives how a run that is over has ended.
func (r *reader) takeEnd() api.Outcome {
	var o api.Outcome
	o.Kind = int(r.takeNumber(flagSize))
	r.want(api.Returned <= o.Kind && o.Kind <= api.OutOfFuel)
	o.Word = r.takeNumber(wordSize)
	r.want(o.Kind == api.Returned || o.Word == 0)
	o.Code = api.Errno(r.takeNumber(codeSize))
	r.want(core.IsFault(o.Code) && o.Kind == api.Faulted || o.Code == api.OK && o.Kind != api.Faulted)
	if o.Kind == api.Returned {
		r.takeNoPlace()
	} else {
		r.takePlace(&o)
	}
	return o
}

// takeNoPlace takes the place of an outcome that has none.
func (r *reader) takeNoPlace() {
	r.takeCountTo(0)
	r.takeCountTo(0)
}

// takePlace takes the function of an outcome, and the place in it.
func (r *reader) takePlace(o *api.Outcome) {
	k := r.takeCount()
	r.want(isNumber(k, len(r.image.Funcs)))
	f := r.image.Funcs[k]
	o.Func, o.Object = f.Name, f.Object
	o.At = r.takeCountTo(f.Count)
}

// takeFrames gives the frames of a run that is not over: each but the last is a caller's, of the one behind it.
func (r *reader) takeFrames() []api.Frame {
	many := r.takeCountTo(api.MaxFrames)
	r.want(many >= 1)
	frames := make([]api.Frame, 0, many)
	function := r.image.Entry
	for d := range many {
		isCaller := d < many-1
		f := r.takeFrame(d, function, isCaller)
		if isCaller {
			function = r.ahead(f).Imm
		}
		frames = append(frames, f)
	}
	return frames
}

// takeFrame gives the frame of a number, which must be one of that function, if there is such a function.
func (r *reader) takeFrame(d, function int, isCaller bool) api.Frame {
	var f api.Frame
	f.Func = r.takeCount()
	r.want(f.Func == function && isNumber(f.Func, len(r.image.Funcs)))
	f.At = r.takeCountTo(r.image.Funcs[f.Func].Count)
	r.want(!isCaller || r.isBehindCall(f))
	f.Regs = r.takeRegs(d, isCaller)
	f.Bytes = r.take(api.MaxFrame)
	return f
}

func (r *reader) isBehindCall(f api.Frame) bool {
	return f.At > 0 && isa.Jumps(r.ahead(f)) == api.JumpCall
}

// ahead gives the instruction ahead of the one at which a frame stands.
func (r *reader) ahead(f api.Frame) api.Insn {
	return r.image.Text[r.image.Funcs[f.Func].First+f.At-1]
}

// takeRegs gives the registers of the frame of a number; its top is not written.
func (r *reader) takeRegs(d int, isCaller bool) []uint64 {
	regs := make([]uint64, core.Registers)
	for k := range core.TopReg {
		regs[k] = r.takeNumber(wordSize)
		r.want(!isCaller || k >= core.FirstKept || regs[k] == 0)
	}
	regs[core.TopReg] = core.Top(d)
	return regs
}

// takeTables gives the tables' regions.
func (r *reader) takeTables() []api.Region {
	all := make([]api.Region, 0, len(r.image.Tables))
	for k, d := range r.image.Tables {
		all = append(all, api.Region{First: core.Handle(k), Data: r.take(core.RegionSize(d))})
	}
	return all
}

// takeHashes gives the hash tables' entries.
func (r *reader) takeHashes() []api.Contents {
	var all []api.Contents
	for _, d := range r.image.Tables {
		if d.Kind == api.TableHash {
			all = append(all, api.Contents{Table: d.Name, Entries: r.takeEntries(d)})
		}
	}
	return all
}

func (r *reader) takeEntries(d api.TableDef) []api.Entry {
	many := r.takeCountTo(d.Entries)
	all := make([]api.Entry, 0, many)
	places := map[string]int{} // of the entries ahead, by their keys
	last := -1
	for range many {
		place := r.takeCount()
		r.want(last < place && place < d.Entries)
		key := r.take(d.Key)
		_, twice := places[string(key)]
		r.want(!twice)
		all = append(all, api.Entry{Key: key, Place: place})
		places[string(key)] = place
		last = place
	}
	return all
}

func (r *reader) takeDraws() []uint64 {
	draws := make([]uint64, r.takeCountTo(api.MaxDraws))
	for k := range draws {
		draws[k] = r.takeNumber(wordSize)
	}
	return draws
}
