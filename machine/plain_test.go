package machine

import (
	"bytes"
	"math/big"
	"slices"
	"strconv"
	"strings"

	"spindle/api"
	"spindle/image"
	"spindle/isa"
	"spindle/line"
)

// Here a run is read a second time, by the document's words, over frozen states: a step takes one and gives the next. Instructions are told by their mnemonics, words are numbers of any size, each place and each entry is sought out anew. Layer 17 is asked whether an image may be, layer 2 whether an instruction may be, and layer 4 how it is called.

// plainState is a run as it stands; it may be written into.
type plainState struct {
	im api.Image
	api.Frozen
}

// copyFrozen gives the same state in new memory.
func copyFrozen(f api.Frozen) api.Frozen {
	f.Frames = slices.Clone(f.Frames)
	for k := range f.Frames {
		f.Frames[k].Regs, f.Frames[k].Bytes = slices.Clone(f.Frames[k].Regs), slices.Clone(f.Frames[k].Bytes)
	}
	f.Context, f.Draws = slices.Clone(f.Context), slices.Clone(f.Draws)
	f.Tables = slices.Clone(f.Tables)
	for k := range f.Tables {
		f.Tables[k].Data = slices.Clone(f.Tables[k].Data)
	}
	f.Entries = copyContents(f.Entries)
	f.Outcome.Context, f.Outcome.Tables = slices.Clone(f.Outcome.Context), copyContents(f.Outcome.Tables)
	return f
}

func copyContents(cs []api.Contents) []api.Contents {
	cs = slices.Clone(cs)
	for k := range cs {
		cs[k].Entries = slices.Clone(cs[k].Entries)
		for n, e := range cs[k].Entries {
			cs[k].Entries[n].Key, cs[k].Entries[n].Value = slices.Clone(e.Key), slices.Clone(e.Value)
		}
	}
	return cs
}

func plainRow(d api.TableDef) int {
	row := 0
	for row < d.Value {
		row += 8
	}
	return row
}

func plainKey(number int) []byte {
	return []byte{byte(number % 256), byte(number / 256 % 256), byte(number / 65536 % 256), byte(number / 16777216 % 256)}
}

// plainNew gives the state at the beginning of a run, or the error and the number.
func plainNew(im api.Image, job api.Job) (api.Frozen, int, api.Errno) {
	if k, e := image.Check(im); e != api.OK {
		return api.Frozen{}, k, e
	}
	if len(job.Context) > 65536 {
		return api.Frozen{}, 0, api.ErrMachineContext
	}
	if job.Fuel < 0 || job.Fuel > 1048576 {
		return api.Frozen{}, 0, api.ErrMachineFuel
	}
	if len(job.Draws) > 65536 {
		return api.Frozen{}, 0, api.ErrMachineDraws
	}
	regs := make([]uint64, 11)
	regs[1], regs[2], regs[10] = 1<<32, uint64(len(job.Context)), 2<<32
	s := plainState{im, api.Frozen{
		Frames:  []api.Frame{{Func: im.Entry, Regs: regs, Bytes: make([]byte, 512)}},
		Context: slices.Clone(job.Context), Draws: slices.Clone(job.Draws), Fuel: job.Fuel,
	}}
	for k, d := range im.Tables {
		s.Tables = append(s.Tables, api.Region{First: uint64(16+k) << 32, Data: make([]byte, d.Entries*plainRow(d))})
		if d.Kind == 2 {
			s.Entries = append(s.Entries, api.Contents{Table: d.Name})
		}
	}
	for k, c := range job.Contents {
		if e := s.fill(job.Contents[:k], c); e != api.OK {
			return api.Frozen{}, k, e
		}
	}
	return s.Frozen, 0, api.OK
}

// fill puts in the contents of a table; others stand ahead.
func (s *plainState) fill(ahead []api.Contents, c api.Contents) api.Errno {
	k := slices.IndexFunc(s.im.Tables, func(d api.TableDef) bool { return d.Name == c.Table })
	if k < 0 {
		return api.ErrTablesName
	}
	if slices.ContainsFunc(ahead, func(a api.Contents) bool { return a.Table == c.Table }) {
		return api.ErrTablesTwice
	}
	d := s.im.Tables[k]
	for n, e := range c.Entries {
		if e.Place < 0 || e.Place >= d.Entries || n > 0 && e.Place <= c.Entries[n-1].Place {
			return api.ErrTablesPlace
		}
		if len(e.Key) != d.Key || d.Kind == 1 && !bytes.Equal(e.Key, plainKey(e.Place)) {
			return api.ErrTablesKey
		}
		if d.Kind == 2 && slices.ContainsFunc(c.Entries[:n], func(a api.Entry) bool { return bytes.Equal(a.Key, e.Key) }) {
			return api.ErrTablesKey
		}
		if len(e.Value) != d.Value {
			return api.ErrTablesValue
		}
		copy(s.Tables[k].Data[e.Place*plainRow(d):], e.Value)
		if d.Kind == 2 {
			es := s.entries(d.Name)
			*es = append(*es, api.Entry{Key: slices.Clone(e.Key), Place: e.Place})
		}
	}
	return api.OK
}

// entries gives the entries of a hash.
func (s *plainState) entries(name string) *[]api.Entry {
	for k := range s.Entries {
		if s.Entries[k].Table == name {
			return &s.Entries[k].Entries
		}
	}
	return nil
}

// memory gives the n bytes at an address, where they can be written over; none, where they are not wholly in one region.
func (s *plainState) memory(at uint64, n int) []byte {
	regions := append([]api.Region{{First: 1 << 32, Data: s.Context}}, s.Tables...)
	for d, f := range s.Frames {
		regions = append(regions, api.Region{First: 2<<32 - 512*uint64(d) - 512, Data: f.Bytes})
	}
	for _, r := range regions {
		if at >= r.First && at-r.First < uint64(len(r.Data)) && uint64(n) <= uint64(len(r.Data))-(at-r.First) {
			return r.Data[at-r.First:][:n]
		}
	}
	return nil
}

func plainMnemonic(i api.Insn) string {
	target := ""
	switch {
	case i.Op == 0x85 && i.Src == 1:
		i.Imm, target = -1, "x"
	case i.Op == 0x06 || i.Op == 0x18 && i.Src == 1:
		i.Imm, target = 0, "x"
	case isa.Jumps(i) == api.JumpAlways || isa.Jumps(i) == api.JumpMaybe:
		i.Off, target = 0, "x"
	}
	text, e := line.Print(i, target)
	if e != api.OK {
		panic("an instruction without a line")
	}
	name, _, _ := strings.Cut(text, " ")
	return name
}

// plainSlot gives the slot of an instruction, counted from the beginning of its function.
func plainSlot(body []api.Insn, at int) int {
	slot := 0
	for _, i := range body[:at] {
		slot++
		if i.Op == 0x18 {
			slot++
		}
	}
	return slot
}

// plainTarget gives the instruction to which a branch leads, or -1.
func plainTarget(body []api.Insn, at int) int {
	far := body[at].Off
	if body[at].Op == 0x06 {
		far = body[at].Imm
	}
	for k := range body {
		if plainSlot(body, k) == plainSlot(body, at)+1+far {
			return k
		}
	}
	return -1
}

// plainStep gives the state behind a step.
func plainStep(im api.Image, f api.Frozen) api.Frozen {
	s := &plainState{im, copyFrozen(f)}
	if s.Over {
		return s.Frozen
	}
	alive := s.alive()
	function := im.Funcs[alive.Func]
	over := api.Outcome{Func: function.Name, Object: function.Object, At: alive.At}
	if s.Fuel == 0 {
		over.Kind = api.OutOfFuel
		s.finish(over)
		return s.Frozen
	}
	left := s.Fuel - 1
	s.Fuel = left
	if fault := s.perform(); fault != api.OK {
		// A fault changes nothing, so what was there is taken again.
		s.Frozen = copyFrozen(f)
		s.Fuel = left
		over.Kind, over.Code = api.Faulted, fault
		s.finish(over)
	}
	return s.Frozen
}

func (s *plainState) alive() *api.Frame { return &s.Frames[len(s.Frames)-1] }

func (s *plainState) finish(o api.Outcome) {
	s.Over, s.Outcome, s.Frames = true, o, nil
}

// perform does an instruction, or gives its fault.
func (s *plainState) perform() api.Errno {
	alive := s.alive()
	function := s.im.Funcs[alive.Func]
	if alive.At == function.Count {
		return api.FaultPlace
	}
	body := s.im.Text[function.First:][:function.Count]
	i := body[alive.At]
	if isa.May(i) != api.OK {
		return api.FaultInsn
	}
	name := plainMnemonic(i)
	if fault := s.operands(name, i, body, alive.At); fault != api.OK {
		return fault
	}
	at := alive.At
	alive.At++
	switch {
	case name == "exit":
		s.exit()
	case name == "call" && i.Src == 1:
		s.call(i.Imm)
	case name == "call":
		return s.help(i.Imm)
	case name == "lddw":
		alive.Regs[i.Dst] = uint64(i.Imm)
	case name == "ldmap":
		alive.Regs[i.Dst] = uint64(16+i.Imm) << 32
	case strings.HasPrefix(name, "ldx"), strings.HasPrefix(name, "st"):
		return s.move(name, i)
	case i.Op == 0xdb || i.Op == 0xc3:
		return s.atomic(name, i)
	case name[0] == 'j':
		if plainTakes(name, alive.Regs[i.Dst], s.operand(i)) {
			alive.At = plainTarget(body, at)
		}
	default:
		alive.Regs[i.Dst] = plainReckon(name, alive.Regs[i.Dst], s.operand(i))
	}
	return api.OK
}

func (s *plainState) operand(i api.Insn) uint64 {
	if i.Op&0x08 != 0 {
		return s.alive().Regs[i.Src]
	}
	return uint64(i.Imm)
}

// operands gives the fault of an instruction's operands.
func (s *plainState) operands(name string, i api.Insn, body []api.Insn, at int) api.Errno {
	jumps := name[0] == 'j'
	stores := strings.HasPrefix(name, "st")
	atomic := i.Op == 0xdb || i.Op == 0xc3
	fetches := strings.HasPrefix(name, "af") || strings.HasPrefix(name, "axchg")
	switch {
	case !jumps && !stores && !atomic && name != "call" && name != "exit" && i.Dst == 10, fetches && atomic && i.Src == 10:
		return api.FaultWrite
	case name == "ldmap" && (i.Imm < 0 || i.Imm >= len(s.im.Tables)):
		return api.FaultTable
	case jumps && plainTarget(body, at) < 0:
		return api.FaultPlace
	case name == "call" && i.Src == 1 && (i.Imm < 0 || i.Imm >= len(s.im.Funcs)):
		return api.FaultCall
	case name == "call" && i.Src == 1 && len(s.Frames) == 8:
		return api.FaultDeep
	case name == "call" && i.Src == 0 && i.Imm != 1 && i.Imm != 2 && i.Imm != 3 && i.Imm != 4:
		return api.FaultHelper
	}
	return api.OK
}

func (s *plainState) call(function int) {
	caller := s.alive()
	callee := api.Frame{Func: function, Regs: slices.Clone(caller.Regs), Bytes: make([]byte, 512)}
	callee.Regs[10] -= 512
	clear(caller.Regs[:6])
	s.Frames = append(s.Frames, callee)
}

func (s *plainState) exit() {
	r0 := s.alive().Regs[0]
	if len(s.Frames) == 1 {
		s.finish(api.Outcome{Kind: api.Returned, Word: r0})
		return
	}
	s.Frames = s.Frames[:len(s.Frames)-1]
	s.alive().Regs[0] = r0
}

// plainNumber gives the number of bytes, the lowest first.
func plainNumber(b []byte) uint64 {
	x := uint64(0)
	for _, part := range slices.Backward(b) {
		x = x*256 + uint64(part)
	}
	return x
}

func plainLay(b []byte, x uint64) {
	for k := range b {
		b[k] = byte(x % 256)
		x /= 256
	}
}

// move does a load or a store.
func (s *plainState) move(name string, i api.Insn) api.Errno {
	regs := s.alive().Regs
	rest := strings.TrimPrefix(strings.TrimPrefix(name, "ldx"), "st")
	signed := name[0] == 'l' && rest[0] == 's'
	size := map[string]int{"b": 1, "h": 2, "w": 4, "dw": 8}[strings.TrimLeft(rest, "sx")]
	base := i.Dst
	if name[0] == 'l' {
		base = i.Src
	}
	place := s.memory(regs[base]+uint64(i.Off), size)
	switch {
	case place == nil:
		return api.FaultMemory
	case signed:
		regs[i.Dst] = plainSigned(plainNumber(place), 8*size)
	case name[0] == 'l':
		regs[i.Dst] = plainNumber(place)
	case rest[0] == 'x':
		plainLay(place, regs[i.Src])
	default:
		plainLay(place, uint64(i.Imm))
	}
	return api.OK
}

func (s *plainState) atomic(name string, i api.Insn) api.Errno {
	regs := s.alive().Regs
	short, is32 := strings.CutSuffix(name, "32")
	size := 8
	if is32 {
		size = 4
	}
	place := s.memory(regs[i.Dst]+uint64(i.Off), size)
	if place == nil {
		return api.FaultMemory
	}
	was, with := plainNumber(place), regs[i.Src]
	switch short {
	case "aadd", "afadd":
		plainLay(place, was+with)
	case "aor", "afor":
		plainLay(place, was|with)
	case "aand", "afand":
		plainLay(place, was&with)
	case "axor", "afxor":
		plainLay(place, was^with)
	case "axchg":
		plainLay(place, with)
	case "acmpxchg":
		if was == plainNarrow(regs[0], 8*size) {
			plainLay(place, with)
		}
		regs[0] = was
	}
	if short == "axchg" || strings.HasPrefix(short, "af") {
		regs[i.Src] = was
	}
	return api.OK
}

// help does a helper.
func (s *plainState) help(number int) api.Errno {
	regs := s.alive().Regs
	answer := 0
	if number == 3 {
		if s.Used < len(s.Draws) {
			answer = int(s.Draws[s.Used])
		}
		s.Used++
	} else {
		var fault api.Errno
		if answer, fault = s.table(number, regs); fault != api.OK {
			return fault
		}
	}
	clear(regs[:6])
	regs[0] = uint64(answer)
	return api.OK
}

func (s *plainState) table(number int, regs []uint64) (int, api.Errno) {
	k := slices.IndexFunc(s.Tables, func(r api.Region) bool { return r.First == regs[1] })
	if k < 0 {
		return -22, api.OK
	}
	d := s.im.Tables[k]
	key := slices.Clone(s.memory(regs[2], d.Key))
	if key == nil {
		return 0, api.FaultMemory
	}
	var value []byte
	if number == 2 {
		if value = slices.Clone(s.memory(regs[3], d.Value)); value == nil {
			return 0, api.FaultMemory
		}
	}
	if d.Kind == 1 {
		return s.array(number, k, key, value, regs[4]), api.OK
	}
	return s.hash(number, k, key, value, regs[4]), api.OK
}

func (s *plainState) array(number, k int, key, value []byte, flags uint64) int {
	d := s.im.Tables[k]
	n := plainNumber(key)
	there := n < uint64(d.Entries)
	at := int(n) * plainRow(d)
	switch {
	case number == 1 && there:
		return 1<<32*(16+k) + at
	case number == 1:
		return 0
	case number == 4:
		return -22
	case !there:
		return -2
	case flags == 1:
		return -17
	case flags > 2:
		return -22
	}
	copy(s.Tables[k].Data[at:], value)
	return 0
}

func (s *plainState) hash(number, k int, key, value []byte, flags uint64) int {
	d := s.im.Tables[k]
	es := s.entries(d.Name)
	n := slices.IndexFunc(*es, func(e api.Entry) bool { return bytes.Equal(e.Key, key) })
	there := n >= 0
	switch {
	case number == 1 && there:
		return 1<<32*(16+k) + (*es)[n].Place*plainRow(d)
	case number == 1:
		return 0
	case number == 4 && there:
		*es = slices.Delete(*es, n, n+1)
		return 0
	case number == 4:
		return -2
	case flags > 2:
		return -22
	case flags == 1 && there:
		return -17
	case flags == 2 && !there:
		return -2
	case there:
		copy(s.Tables[k].Data[(*es)[n].Place*plainRow(d):], value)
		return 0
	case len(*es) == d.Entries:
		return -7
	}
	place := 0
	for slices.ContainsFunc(*es, func(e api.Entry) bool { return e.Place == place }) {
		place++
	}
	row := s.Tables[k].Data[place*plainRow(d):][:plainRow(d)]
	clear(row)
	copy(row, value)
	// The numbers below this one are all taken, so it stands behind as many entries.
	*es = slices.Insert(*es, place, api.Entry{Key: key, Place: place})
	return 0
}

func power(bits int) *big.Int { return new(big.Int).Lsh(big.NewInt(1), uint(bits)) }

func plainNarrow(x uint64, bits int) uint64 {
	n := new(big.Int).SetUint64(x)
	return n.Mod(n, power(bits)).Uint64()
}

// signedNumber gives the number with a sign of so many bits.
func signedNumber(x uint64, bits int) *big.Int {
	n := new(big.Int).SetUint64(plainNarrow(x, bits))
	if n.Cmp(power(bits-1)) >= 0 {
		n.Sub(n, power(bits))
	}
	return n
}

func unsignedNumber(x uint64, bits int) *big.Int {
	return new(big.Int).SetUint64(plainNarrow(x, bits))
}

// asWordOf gives a number modulo 2^bits.
func asWordOf(n *big.Int, bits int) uint64 {
	return new(big.Int).Mod(n, power(bits)).Uint64()
}

func plainSigned(x uint64, bits int) uint64 { return asWordOf(signedNumber(x, bits), 64) }

// plainReckon gives what an arithmetic instruction makes of its destination.
func plainReckon(name string, d, operand uint64) uint64 {
	for _, order := range []string{"le", "be", "swap"} {
		if bits, e := strconv.Atoi(strings.TrimPrefix(name, order)); strings.HasPrefix(name, order) && e == nil {
			return plainOrder(order, d, bits)
		}
	}
	if rest, is := strings.CutPrefix(name, "movs"); is {
		short, narrow := strings.CutSuffix(rest, "w")
		bits, _ := strconv.Atoi(short)
		if narrow {
			return plainNarrow(plainSigned(operand, bits), 32)
		}
		return plainSigned(operand, bits)
	}
	bits := 64
	short, is32 := strings.CutSuffix(name, "32")
	if is32 {
		bits = 32
	}
	return asWordOf(plainResult(short, d, operand, bits), bits)
}

func plainOrder(order string, d uint64, bits int) uint64 {
	b := make([]byte, bits/8)
	plainLay(b, d)
	if order != "le" {
		slices.Reverse(b)
	}
	return plainNumber(b)
}

func plainResult(name string, d, operand uint64, bits int) *big.Int {
	a, b := unsignedNumber(d, bits), unsignedNumber(operand, bits)
	sa, sb := signedNumber(d, bits), signedNumber(operand, bits)
	none := b.Sign() == 0
	by := uint(new(big.Int).Mod(b, big.NewInt(int64(bits))).Uint64())
	r := new(big.Int)
	switch {
	case name == "add":
		return r.Add(a, b)
	case name == "sub":
		return r.Sub(a, b)
	case name == "mul":
		return r.Mul(a, b)
	case name == "or":
		return r.Or(a, b)
	case name == "and":
		return r.And(a, b)
	case name == "xor":
		return r.Xor(a, b)
	case name == "mov":
		return b
	case name == "neg":
		return r.Neg(a)
	case name == "lsh":
		return r.Lsh(a, by)
	case name == "rsh":
		return r.Rsh(a, by)
	case name == "arsh":
		return r.Rsh(sa, by)
	case none && (name == "div" || name == "sdiv"):
		return r
	case none && (name == "mod" || name == "smod"):
		return a
	case name == "div":
		return r.Quo(a, b)
	case name == "mod":
		return r.Rem(a, b)
	case name == "sdiv":
		return r.Quo(sa, sb)
	case name == "smod":
		return r.Rem(sa, sb)
	}
	panic("an operation without a meaning: " + name)
}

// plainTakes tells whether a branch is taken.
func plainTakes(name string, d, operand uint64) bool {
	if name == "ja" || name == "ja32" {
		return true
	}
	bits := 64
	short, is32 := strings.CutSuffix(name, "32")
	if is32 {
		bits = 32
	}
	c := unsignedNumber(d, bits).Cmp(unsignedNumber(operand, bits))
	if short[1] == 's' && short != "jset" {
		short = "j" + short[2:]
		c = signedNumber(d, bits).Cmp(signedNumber(operand, bits))
	}
	switch short {
	case "jeq":
		return c == 0
	case "jne":
		return c != 0
	case "jgt":
		return c > 0
	case "jge":
		return c >= 0
	case "jlt":
		return c < 0
	case "jle":
		return c <= 0
	}
	return plainNarrow(d&operand, bits) != 0
}

// plainOutcome gives the outcome of a run that is over.
func plainOutcome(im api.Image, f api.Frozen) api.Outcome {
	s := plainState{im, copyFrozen(f)}
	o := s.Outcome
	o.Context, o.Fuel, o.Draws = s.Context, s.Fuel, s.Used
	for k, d := range im.Tables {
		c := api.Contents{Table: d.Name}
		if d.Kind == 2 {
			c.Entries = slices.Clone(*s.entries(d.Name))
		} else {
			for place := range d.Entries {
				c.Entries = append(c.Entries, api.Entry{Key: plainKey(place), Place: place})
			}
		}
		for n, e := range c.Entries {
			c.Entries[n].Value = slices.Clone(s.Tables[k].Data[e.Place*plainRow(d):][:d.Value])
		}
		o.Tables = append(o.Tables, c)
	}
	return o
}
