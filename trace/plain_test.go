package trace

import (
	"bytes"
	"encoding/binary"
	"slices"
	"testing"

	"spindle/api"
	"spindle/image"
	"spindle/isa"
	"spindle/machine"
)

// The second reading: the bytes of a run by the chapter's words, written of a frozen state and read again, with no panic and nothing shared with the first one.

func imageBytes(t *testing.T, im api.Image) []byte {
	t.Helper()
	b, k, e := image.Write(im)
	if e != api.OK {
		t.Fatalf("an image that may not be: %d, %d", k, e)
	}
	return b
}

func put32(b []byte, n int) []byte    { return binary.LittleEndian.AppendUint32(b, uint32(n)) }
func put64(b []byte, x uint64) []byte { return binary.LittleEndian.AppendUint64(b, x) }

// plainBytes writes a frozen state.
func plainBytes(t *testing.T, im api.Image, f api.Frozen) []byte {
	t.Helper()
	front := imageBytes(t, im)
	b := append(put32([]byte{0x54, 0x52, 0x43, 0x31}, len(front)), front...)
	if o := f.Outcome; f.Over {
		b = binary.LittleEndian.AppendUint16(put64(append(b, 1, byte(o.Kind)), o.Word), uint16(o.Code))
		number := 0
		for k, g := range im.Funcs {
			if g.Name == o.Func && g.Object == o.Object {
				number = k
			}
		}
		b = put32(put32(b, number), o.At)
	} else {
		b = put32(append(b, 0), len(f.Frames))
		for _, g := range f.Frames {
			b = put32(put32(b, g.Func), g.At)
			for k := range 10 {
				b = put64(b, g.Regs[k])
			}
			b = append(b, g.Bytes...)
		}
	}
	b = append(put32(b, len(f.Context)), f.Context...)
	for _, r := range f.Tables {
		b = append(b, r.Data...)
	}
	for _, c := range f.Entries {
		b = put32(b, len(c.Entries))
		for _, e := range c.Entries {
			b = append(put32(b, e.Place), e.Key...)
		}
	}
	b = put32(b, len(f.Draws))
	for _, x := range f.Draws {
		b = put64(b, x)
	}
	return put64(put64(b, uint64(f.Used)), uint64(f.Fuel))
}

// span is where a field stands.
type span struct{ at, size int }

// plain goes through bytes; once a field is wrong the others are of zeros, and say nothing.
type plain struct {
	b      []byte
	fields []span
	wrong  bool
	place  int
	code   api.Errno
}

func (p *plain) next() int {
	if len(p.fields) == 0 {
		return 0
	}
	last := p.fields[len(p.fields)-1]
	return last.at + last.size
}

// field gives a field of so many bytes.
func (p *plain) field(size int) []byte {
	if p.wrong || p.next()+size > len(p.b) {
		p.fail(len(p.b), api.ErrTraceForm)
		return make([]byte, min(size, 512))
	}
	p.fields = append(p.fields, span{p.next(), size})
	return slices.Clone(p.b[p.next()-size : p.next()])
}

func (p *plain) number(size int) uint64 {
	return binary.LittleEndian.Uint64(append(p.field(size), 0, 0, 0, 0, 0, 0, 0, 0))
}

// refuse: the field that was given last may not be, if that holds.
func (p *plain) refuse(wrong bool) {
	if wrong && !p.wrong {
		p.fail(p.fields[len(p.fields)-1].at, api.ErrTraceForm)
	}
}

func (p *plain) fail(place int, e api.Errno) {
	if !p.wrong {
		p.wrong, p.place, p.code = true, place, e
	}
}

// plainRead reads bytes: the fields that may be, and what they say; or the place of what is wrong, and the error.
func plainRead(t *testing.T, im api.Image, b []byte) (api.Frozen, []span, int, api.Errno) {
	t.Helper()
	p := &plain{b: b}
	for _, want := range []byte{0x54, 0x52, 0x43, 0x31} {
		p.refuse(p.number(1) != uint64(want))
	}
	if own := p.field(int(p.number(4))); !p.wrong && !bytes.Equal(own, imageBytes(t, im)) {
		p.fail(8, api.ErrTraceImage)
	}
	var f api.Frozen
	over := p.number(1)
	p.refuse(over != 0 && over != 1)
	f.Over = over == 1
	if f.Over {
		p.end(im, &f.Outcome)
	} else {
		p.frames(im, &f)
	}
	count := p.number(4)
	p.refuse(count > 65536)
	f.Context = p.field(int(count))
	for k, d := range im.Tables {
		f.Tables = append(f.Tables, api.Region{First: uint64(16+k) << 32, Data: p.field(d.Entries * ((d.Value + 7) &^ 7))})
	}
	for _, d := range im.Tables {
		if d.Kind == api.TableHash {
			f.Entries = append(f.Entries, api.Contents{Table: d.Name, Entries: p.entries(d)})
		}
	}
	count = p.number(4)
	p.refuse(count > 65536)
	for k := uint64(0); k < count && !p.wrong; k++ {
		f.Draws = append(f.Draws, p.number(8))
	}
	used := p.number(8)
	p.refuse(used > 1048576)
	fuel := p.number(8)
	p.refuse(fuel > 1048576 || f.Outcome.Kind == 3 && fuel != 0)
	f.Used, f.Fuel = int(used), int(fuel)
	if !p.wrong && p.next() < len(b) {
		p.fail(p.next(), api.ErrTraceForm)
	}
	if p.wrong {
		return api.Frozen{}, p.fields, p.place, p.code
	}
	return f, p.fields, 0, api.OK
}

func (p *plain) end(im api.Image, o *api.Outcome) {
	o.Kind = int(p.number(1))
	p.refuse(o.Kind < 1 || o.Kind > 3)
	o.Word = p.number(8)
	p.refuse(o.Kind != 1 && o.Word != 0)
	o.Code = api.Errno(p.number(2))
	if o.Kind == 2 {
		p.refuse(o.Code != 200 && o.Code != 220 && o.Code != 221 && o.Code != 222 && o.Code != 223 && o.Code != 224 && o.Code != 225 && o.Code != 226)
	} else {
		p.refuse(o.Code != 0)
	}
	number := int(p.number(4))
	p.refuse(o.Kind == 1 && number != 0 || number >= len(im.Funcs))
	o.At = int(p.number(4))
	if p.wrong {
		return
	}
	if o.Kind == 1 {
		p.refuse(o.At != 0)
		return
	}
	p.refuse(o.At > im.Funcs[number].Count)
	o.Func, o.Object = im.Funcs[number].Name, im.Funcs[number].Object
}

func (p *plain) frames(im api.Image, f *api.Frozen) {
	count := int(p.number(4))
	p.refuse(count < 1 || count > 8)
	calls := im.Entry
	for d := 0; d < count && !p.wrong; d++ {
		g := api.Frame{Func: int(p.number(4))}
		p.refuse(g.Func != calls || g.Func >= len(im.Funcs))
		g.At = int(p.number(4))
		if p.wrong {
			return
		}
		body := im.Text[im.Funcs[g.Func].First:][:im.Funcs[g.Func].Count]
		p.refuse(g.At > len(body))
		if d < count-1 && !p.wrong {
			p.refuse(g.At == 0)
			if !p.wrong {
				i := body[g.At-1]
				p.refuse(isa.May(i) != api.OK || i.Op != 0x85 || i.Src != 1)
				calls = i.Imm
			}
		}
		for k := range 10 {
			x := p.number(8)
			p.refuse(d < count-1 && k <= 5 && x != 0)
			g.Regs = append(g.Regs, x)
		}
		g.Regs = append(g.Regs, 2<<32-512*uint64(d))
		g.Bytes = p.field(512)
		f.Frames = append(f.Frames, g)
	}
}

func (p *plain) entries(d api.TableDef) []api.Entry {
	var es []api.Entry
	count := int(p.number(4))
	p.refuse(count > d.Entries)
	for k := 0; k < count && !p.wrong; k++ {
		place := int(p.number(4))
		p.refuse(place >= d.Entries || k > 0 && place <= es[k-1].Place)
		key := p.field(d.Key)
		for _, ahead := range es {
			p.refuse(bytes.Equal(ahead.Key, key))
		}
		es = append(es, api.Entry{Key: key, Place: place})
	}
	return es
}

// check holds Read against the second reading, and a run that it gives against the machine that stands so. It gives what Read told.
func check(t *testing.T, what string, im api.Image, b []byte) (int, api.Errno) {
	t.Helper()
	f, _, place, code := plainRead(t, im, b)
	r, at, e := Read(im, b)
	if at != place || e != code || (r == nil) != (code != api.OK) {
		t.Fatalf("P25.7: %s: Read = %v, %d, %d, want %d, %d; %x", what, r != nil, at, e, place, code, b[:min(len(b), 3000)])
	}
	if code != api.OK {
		return at, e
	}
	if again := kept(t, r); !bytes.Equal(again, b) {
		t.Fatalf("P25.8: %s: Keep of what Read took: %x, want %x", what, again, b)
	}
	m, e := machine.Thaw(im, f)
	if e != api.OK {
		t.Fatalf("P22.8: %s: Thaw of what the bytes say: %d", what, e)
	}
	p, _ := r.At()
	q, _ := m.At()
	if p != q {
		t.Fatalf("P25.7: %s: At = %v, want %v", what, p, q)
	}
	for k := range 11 {
		x, _ := r.Reg(k)
		if y, _ := m.Reg(k); x != y {
			t.Fatalf("P25.7: %s: Reg(%d) = %#x, want %#x", what, k, x, y)
		}
	}
	checkSteps(t, what, im, r, m, f)
	return 0, api.OK
}

// checkSteps makes some steps of both.
func checkSteps(t *testing.T, what string, im api.Image, r *Run, m *machine.Machine, f api.Frozen) {
	t.Helper()
	wasOver := f.Over
	for range 3 {
		k, o, over, _ := r.Run(1)
		want, isOver, _ := m.Step()
		counts := 1
		if wasOver || want.Kind == api.OutOfFuel {
			counts = 0
		}
		if k != counts || over != isOver || !alike(o, want) {
			t.Fatalf("P25.8: %s: Run(1) = %d, %+v, %v, want %d, %+v, %v", what, k, o, over, counts, want, isOver)
		}
		wasOver = isOver
	}
	g, _ := m.Freeze()
	if b := kept(t, r); !bytes.Equal(b, plainBytes(t, im, g)) {
		t.Fatalf("P25.6: %s: Keep behind three steps more: %x, want %x", what, b, plainBytes(t, im, g))
	}
}
