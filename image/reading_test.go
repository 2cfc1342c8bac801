package image

import (
	"bytes"
	"encoding/binary"
	"regexp"
	"slices"
	"testing"

	"spindle/api"
)

// Here images and their bytes are read a second time, by the chapter's words: without maps and without layer 8, each list gone through anew.

// plainName is what DOC.md calls a name.
var plainName = regexp.MustCompile(`\A[A-Za-z_][A-Za-z0-9_.$]{0,63}\z`)

func plainSlots(is []api.Insn) int {
	n := 0
	for _, i := range is {
		n++
		if i.Op == 0x18 {
			n++
		}
	}
	return n
}

func plainCheck(im api.Image) (int, api.Errno) {
	switch {
	case plainSlots(im.Text) > 1048576:
		return 0, api.ErrImageMany
	case len(im.Funcs) > 4096:
		return 1, api.ErrImageMany
	case len(im.Tables) > 1024:
		return 2, api.ErrImageMany
	}
	if k := plainNames(im); k >= 0 {
		return k, api.ErrImageName
	}
	if k := plainFuncs(im); k >= 0 {
		return k, api.ErrImageFunc
	}
	room := 0
	for k, d := range im.Tables {
		if !plainTable(d) {
			return k, api.ErrImageTable
		}
		room += plainSize(d)
	}
	if room > 67108864 {
		return len(im.Tables), api.ErrImageTable
	}
	if im.Entry < 0 || im.Entry > len(im.Funcs)-1 {
		return 0, api.ErrImageEntry
	}
	if k := slices.IndexFunc(im.Text, func(i api.Insn) bool { return !plainWidths(i) }); k >= 0 {
		return k, api.ErrImageInsn
	}
	return 0, api.OK
}

// plainNames gives the number of the first name that is wrong, below 0 where there is none.
func plainNames(im api.Image) int {
	for k, f := range im.Funcs {
		twice := slices.ContainsFunc(im.Funcs[:k], func(g api.ImgFunc) bool { return g.Name == f.Name && g.Object == f.Object })
		if !plainName.MatchString(f.Name) || f.Object < 0 || f.Object > 63 || twice {
			return k
		}
	}
	for k, d := range im.Tables {
		if !plainName.MatchString(d.Name) || k > 0 && bytes.Compare([]byte(d.Name), []byte(im.Tables[k-1].Name)) <= 0 {
			return len(im.Funcs) + k
		}
	}
	return -1
}

// plainFuncs gives the number of the first function that is wrong, below 0 where there is none.
func plainFuncs(im api.Image) int {
	sum := 0
	for k, f := range im.Funcs {
		if f.First != sum || f.Count < 1 || f.Count > len(im.Text[f.First:]) {
			return k
		}
		sum = sum + f.Count
	}
	if sum < len(im.Text) {
		return len(im.Funcs)
	}
	return -1
}

func plainTable(d api.TableDef) bool {
	keyed := d.Kind == 1 && d.Key == 4 || d.Kind == 2 && 1 <= d.Key && d.Key <= 64
	return keyed && 1 <= d.Value && d.Value <= 4096 && 1 <= d.Entries && d.Entries <= 65536 && plainSize(d) <= 16777216
}

// plainSize gives a table's size, the rounded value counted up to.
func plainSize(d api.TableDef) int {
	value := d.Value
	for value%8 != 0 {
		value++
	}
	return d.Entries * (d.Key + value + 8)
}

func plainWidths(i api.Insn) bool {
	if i.Op != 0x18 && int(int32(i.Imm)) != i.Imm {
		return false
	}
	return int(uint8(i.Op)) == i.Op && i.Dst&15 == i.Dst && i.Src&15 == i.Src && int(int16(i.Off)) == i.Off
}

// laid gives numbers as bytes, each by its kind, by the library.
func laid(numbers ...any) []byte {
	var b bytes.Buffer
	for _, n := range numbers {
		if err := binary.Write(&b, binary.LittleEndian, n); err != nil {
			panic(err)
		}
	}
	return b.Bytes()
}

func plainWrite(im api.Image) ([]byte, int, api.Errno) {
	if k, e := plainCheck(im); e != api.OK {
		return nil, k, e
	}
	b, strings, entries := layPlain(im)
	head := laid([]byte("SPIN"), uint32(1), uint32(plainSlots(im.Text)), uint32(len(im.Funcs)), uint32(len(im.Tables)), uint32(len(strings)), uint32(im.Entry))
	return slices.Concat(head, b, entries, strings), 0, api.OK
}

// layPlain gives the bytes of the text, of the strings, and of the functions and tables.
func layPlain(im api.Image) (text, strings, entries []byte) {
	text = textPlain(im.Text)
	strings = []byte{0}
	place := func(name string) uint32 {
		at := bytes.Index(strings, []byte("\x00"+name+"\x00"))
		if at < 0 {
			at = len(strings) - 1
			strings = append(append(strings, name...), 0)
		}
		return uint32(at + 1)
	}
	for _, f := range im.Funcs {
		first, count := plainSlots(im.Text[:f.First]), plainSlots(im.Text[f.First:f.First+f.Count])
		entries = append(entries, laid(place(f.Name), uint32(f.Object), uint32(first), uint32(count))...)
	}
	for _, d := range im.Tables {
		entries = append(entries, laid(place(d.Name), uint32(d.Kind), uint32(d.Key), uint32(d.Value), uint32(d.Entries))...)
	}
	return text, strings, entries
}

func textPlain(is []api.Insn) []byte {
	var b []byte
	for _, i := range is {
		b = append(b, byte(i.Op), byte(i.Dst+16*i.Src))
		b = binary.LittleEndian.AppendUint16(b, uint16(i.Off))
		b = binary.LittleEndian.AppendUint32(b, uint32(i.Imm))
		if i.Op == 0x18 {
			b = append(b, 0, 0, 0, 0)
			b = binary.LittleEndian.AppendUint32(b, uint32(uint64(i.Imm)>>32))
		}
	}
	return b
}

// number gives the number of four bytes at a place.
func number(b []byte, place int) int { return int(binary.LittleEndian.Uint32(b[place:])) }

// parts are where the parts of an image's bytes begin, and what the passes find in them.
type parts struct {
	b                            []byte
	slots, funcs, tables         int
	funcsAt, tablesAt, stringsAt int
	seconds                      []bool // which slots are second ones, and one more that is none
	names                        []string
	starts                       []int // the places in the strings of the names
	image                        api.Image
	taken                        int // how many names the entries so far have
}

func plainRead(b []byte) (api.Image, int, api.Errno) {
	if at := plainHead(b); at >= 0 {
		return api.Image{}, at, api.ErrImageForm
	}
	p := &parts{b: b, slots: number(b, 8), funcs: number(b, 12), tables: number(b, 16)}
	p.funcsAt = 28 + 8*p.slots
	p.tablesAt = p.funcsAt + 16*p.funcs
	p.stringsAt = p.tablesAt + 20*p.tables
	for _, pass := range []func() int{p.text, p.strings, p.entries} {
		if at := pass(); at >= 0 {
			return api.Image{}, at, api.ErrImageForm
		}
	}
	p.image.Entry = number(b, 24)
	if k, e := plainCheck(p.image); e != api.OK {
		return api.Image{}, k, e
	}
	return p.image, 0, api.OK
}

// plainHead gives the place of the fault of pass 1, below 0 where there is none; so do the other passes.
func plainHead(b []byte) int {
	if len(b) < 28 {
		return len(b)
	}
	for k, c := range []byte{0x53, 0x50, 0x49, 0x4e, 1, 0, 0, 0} {
		if b[k] != c {
			return k
		}
	}
	if len(b) != 28+8*number(b, 8)+16*number(b, 12)+20*number(b, 16)+number(b, 20) {
		return 8
	}
	return -1
}

func (p *parts) text() int {
	p.seconds = make([]bool, p.slots+1)
	for slot := range p.slots {
		at := 28 + 8*slot
		if p.seconds[slot] {
			for k := range 4 {
				if p.b[at+k] != 0 {
					return at + k
				}
			}
			i := &p.image.Text[len(p.image.Text)-1]
			i.Imm = int(binary.LittleEndian.Uint64(append(bytes.Clone(p.b[at-4:at]), p.b[at+4:at+8]...)))
			continue
		}
		if p.b[at] == 0x18 {
			if slot == p.slots-1 {
				return at
			}
			p.seconds[slot+1] = true
		}
		p.image.Text = append(p.image.Text, api.Insn{
			Op: int(p.b[at]), Dst: int(p.b[at+1] % 16), Src: int(p.b[at+1] / 16),
			Off: int(int16(binary.LittleEndian.Uint16(p.b[at+2:]))), Imm: int(int32(binary.LittleEndian.Uint32(p.b[at+4:]))),
		})
	}
	return -1
}

func (p *parts) strings() int {
	table := p.b[p.stringsAt:]
	if len(table) == 0 || table[0] != 0 {
		return p.stringsAt
	}
	for place := 1; place < len(table); {
		name, _, ended := bytes.Cut(table[place:], []byte{0})
		if len(name) == 0 || len(name) > 64 || slices.Contains(p.names, string(name)) || !ended {
			return p.stringsAt + place
		}
		p.names, p.starts = append(p.names, string(name)), append(p.starts, place)
		place += len(name) + 1
	}
	return -1
}

// entries gives the least place of all faults of pass 4.
func (p *parts) entries() int {
	least := -1
	fault := func(place int) {
		if least < 0 || place < least {
			least = place
		}
	}
	sum := 0
	for k := range p.funcs {
		at := p.funcsAt + 16*k
		first, count := number(p.b, at+8), number(p.b, at+12)
		name, found := p.name(number(p.b, at))
		if !found {
			fault(at)
		}
		if first != sum {
			fault(at + 8)
		}
		if count == 0 || count > p.slots-sum || p.seconds[sum+count] {
			fault(at + 12)
			break
		}
		p.image.Funcs = append(p.image.Funcs, api.ImgFunc{Name: name, Object: number(p.b, at+4), First: p.instructions(sum), Count: p.instructions(sum+count) - p.instructions(sum)})
		sum += count
	}
	for k := range p.tables {
		at := p.tablesAt + 20*k
		name, found := p.name(number(p.b, at))
		if !found {
			fault(at)
		}
		p.image.Tables = append(p.image.Tables, api.TableDef{Name: name, Kind: number(p.b, at+4), Key: number(p.b, at+8), Value: number(p.b, at+12), Entries: number(p.b, at+16)})
	}
	if p.taken < len(p.names) {
		fault(p.stringsAt + p.starts[p.taken])
	}
	return least
}

// name gives the name of an entry, which is one of those that are taken or the next one.
func (p *parts) name(place int) (string, bool) {
	k := slices.Index(p.starts, place)
	if k < 0 || k > p.taken {
		return "", false
	}
	p.taken = max(p.taken, k+1)
	return p.names[k], true
}

// instructions tells how many instructions begin ahead of a slot.
func (p *parts) instructions(slot int) int {
	n := 0
	for _, second := range p.seconds[:slot] {
		if !second {
			n++
		}
	}
	return n
}

func same(a, b api.Image) bool {
	return slices.Equal(a.Text, b.Text) && slices.Equal(a.Funcs, b.Funcs) && slices.Equal(a.Tables, b.Tables) && a.Entry == b.Entry
}

func nothing(im api.Image) bool {
	return im.Text == nil && im.Funcs == nil && im.Tables == nil && im.Entry == 0
}

// checkImage holds Check, Write, and Read of what is written against the second reading, and gives Check's answer.
func checkImage(t *testing.T, im api.Image) (int, api.Errno) {
	t.Helper()
	want, wantK, wantE := plainWrite(im)
	k, e := Check(im)
	if k != wantK || e != wantE {
		t.Fatalf("P17.1: Check(%s) = %d, %d, want %d, %d", short(im), k, e, wantK, wantE)
	}
	b, writeK, writeE := Write(im)
	if !bytes.Equal(b, want) || writeK != k || writeE != e {
		t.Fatalf("P17.2: Write(%s) = %s, %d, %d, want %s, %d, %d", short(im), shortBytes(b), writeK, writeE, shortBytes(want), k, e)
	}
	if e != api.OK {
		return k, e
	}
	if again, at, e := Read(b); !same(again, im) || at != 0 || e != api.OK {
		t.Fatalf("P17.4: Read of Write(%s) = %s, %d, %d", short(im), short(again), at, e)
	}
	return k, e
}

// checkBytes holds Read against the second reading, and Write against what is read, and gives Read's answer but for the image.
func checkBytes(t *testing.T, what string, b []byte) (int, api.Errno) {
	t.Helper()
	im, at, e := Read(b)
	want, wantAt, wantE := plainRead(b)
	if !same(im, want) || at != wantAt || e != wantE {
		t.Fatalf("P17.3: Read(%s) = %s, %d, %d, want %s, %d, %d\n%s", what, short(im), at, e, short(want), wantAt, wantE, shortBytes(b))
	}
	if e != api.OK {
		if !nothing(im) {
			t.Fatalf("R2: Read(%s) = %s beside %d", what, short(im), e)
		}
		return at, e
	}
	if again, k, e := Write(im); !bytes.Equal(again, b) || k != 0 || e != api.OK {
		t.Fatalf("P17.4: %s: Write of what Read gives = %s, %d, %d, want %s", what, shortBytes(again), k, e, shortBytes(b))
	}
	return at, e
}
