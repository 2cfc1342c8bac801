package trace

import (
	"slices"

	"spindle/api"
	"spindle/core"
)

// writer lays the fields of a run behind one another.
type writer struct {
	bytes []byte
}

// bytesOf gives the bytes of a run as it stands, over an image with these bytes and functions.
func bytesOf(image []byte, fs []api.ImgFunc, f api.Frozen) []byte {
	w := &writer{bytes: make([]byte, 0, roomOf(image, f))}
	w.layBytes([]byte(opening))
	w.layList(image)
	if f.Over {
		w.layNumber(flagSize, 1)
		w.layEnd(fs, f.Outcome)
	} else {
		w.layNumber(flagSize, 0)
		w.layFrames(f.Frames)
	}
	w.layList(f.Context)
	for _, table := range f.Tables {
		w.layBytes(table.Data)
	}
	for _, hash := range f.Entries {
		w.layEntries(hash.Entries)
	}
	w.layDraws(f.Draws)
	w.layNumber(wordSize, uint64(f.Used))
	w.layNumber(wordSize, uint64(f.Fuel))
	return w.bytes
}

// roomOf gives as many bytes as a run takes, or a few more: a list of many millions that grew step by step would take up several times its room.
func roomOf(image []byte, f api.Frozen) int {
	room := otherSize + len(image) + frameSize*len(f.Frames) + len(f.Context) + wordSize*len(f.Draws)
	for _, table := range f.Tables {
		room += len(table.Data)
	}
	for _, hash := range f.Entries {
		room += countSize
		for _, e := range hash.Entries {
			room += countSize + len(e.Key)
		}
	}
	return room
}

func (w *writer) layBytes(b []byte) {
	w.bytes = append(w.bytes, b...)
}

// layNumber lays a number in so many bytes, the lowest first.
func (w *writer) layNumber(size int, x uint64) {
	for k := range size {
		w.bytes = append(w.bytes, byte(x>>(8*k)))
	}
}

func (w *writer) layCount(n int) {
	w.layNumber(countSize, uint64(n))
}

func (w *writer) layList(b []byte) {
	w.layCount(len(b))
	w.layBytes(b)
}

// layEnd lays how a run that is over has ended.
func (w *writer) layEnd(fs []api.ImgFunc, o api.Outcome) {
	w.layNumber(flagSize, uint64(o.Kind))
	w.layNumber(wordSize, o.Word)
	w.layNumber(codeSize, uint64(o.Code))
	w.layCount(numberOf(fs, o))
	w.layCount(o.At)
}

// numberOf gives the number of the function that an outcome names; 0, where it names none.
func numberOf(fs []api.ImgFunc, o api.Outcome) int {
	named := slices.IndexFunc(fs, func(f api.ImgFunc) bool { return f.Name == o.Func && f.Object == o.Object })
	return max(0, named)
}

func (w *writer) layFrames(fs []api.Frame) {
	w.layCount(len(fs))
	for _, f := range fs {
		w.layCount(f.Func)
		w.layCount(f.At)
		// The frame's top is told by its number.
		for _, x := range f.Regs[:core.TopReg] {
			w.layNumber(wordSize, x)
		}
		w.layBytes(f.Bytes)
	}
}

// layEntries lays the entries of a hash table, whose values stand in its region.
func (w *writer) layEntries(es []api.Entry) {
	w.layCount(len(es))
	for _, e := range es {
		w.layCount(e.Place)
		w.layBytes(e.Key)
	}
}

func (w *writer) layDraws(draws []uint64) {
	w.layCount(len(draws))
	for _, x := range draws {
		w.layNumber(wordSize, x)
	}
}
