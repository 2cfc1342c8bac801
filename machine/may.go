package machine

import (
	"slices"

	"spindle/api"
	"spindle/core"
	"spindle/isa"
)

// mayBe tells whether a frozen state may be for an image that may be, but for its hash tables' entries.
func mayBe(im api.Image, f api.Frozen) bool {
	switch {
	case len(f.Context) > api.MaxContext || len(f.Draws) > api.MaxDraws || !core.IsFuel(f.Used) || !core.IsFuel(f.Fuel):
		return false
	case !regionsMay(im.Tables, f.Tables) || !namesMay(im.Tables, f.Entries) || !isBare(f.Outcome):
		return false
	case f.Over:
		return len(f.Frames) == 0 && endMay(im, f)
	}
	return endingOf(f.Outcome) == ending{} && framesMay(im, f.Frames)
}

func regionsMay(ds []api.TableDef, rs []api.Region) bool {
	if len(rs) != len(ds) {
		return false
	}
	for k, r := range rs {
		if r.First != core.Handle(k) || len(r.Data) != core.RegionSize(ds[k]) {
			return false
		}
	}
	return true
}

// namesMay tells whether the entries are told of just the hash tables, in order.
func namesMay(ds []api.TableDef, cs []api.Contents) bool {
	hashes := 0
	for _, d := range ds {
		if d.Kind != api.TableHash {
			continue
		}
		if hashes == len(cs) || cs[hashes].Table != d.Name {
			return false
		}
		hashes++
	}
	return hashes == len(cs)
}

// isBare tells whether an outcome has nothing but what a frozen state tells of it.
func isBare(o api.Outcome) bool {
	return len(o.Context) == 0 && len(o.Tables) == 0 && o.Fuel == 0 && o.Draws == 0
}

// endMay tells whether the outcome of a run that is over may be.
func endMay(im api.Image, f api.Frozen) bool {
	end := endingOf(f.Outcome)
	switch end.kind {
	case api.Returned:
		return end == ending{kind: api.Returned, word: end.word}
	case api.Faulted:
		return end.word == 0 && core.IsFault(end.code) && isPlace(im, end)
	case api.OutOfFuel:
		return end.word == 0 && end.code == api.OK && isPlace(im, end) && f.Fuel == 0
	}
	return false
}

// isPlace tells whether an outcome's function is one of the image, and has the place, or ends there.
func isPlace(im api.Image, end ending) bool {
	k := slices.IndexFunc(im.Funcs, func(f api.ImgFunc) bool { return f.Name == end.name && f.Object == end.object })
	return k >= 0 && 0 <= end.at && end.at <= im.Funcs[k].Count
}

// framesMay tells whether the frames of a run that is not over may be.
func framesMay(im api.Image, fs []api.Frame) bool {
	if len(fs) < 1 || len(fs) > api.MaxFrames || fs[0].Func != im.Entry {
		return false
	}
	alive := len(fs) - 1
	for d, f := range fs {
		if !frameMay(im, d, f) {
			return false
		}
		if d < alive && !calls(im, f, fs[d+1].Func) {
			return false
		}
	}
	return true
}

// frameMay tells what holds of a frame whether it is a caller's or not.
func frameMay(im api.Image, d int, f api.Frame) bool {
	return isNumber(f.Func, len(im.Funcs)) &&
		0 <= f.At && f.At <= im.Funcs[f.Func].Count &&
		len(f.Regs) == core.Registers && f.Regs[core.TopReg] == core.Top(d) &&
		len(f.Bytes) == api.MaxFrame
}

// calls tells whether a frame stands behind a call of that function, and has the registers of a caller.
func calls(im api.Image, f api.Frame, function int) bool {
	if f.At == 0 || slices.ContainsFunc(f.Regs[:core.FirstKept], func(x uint64) bool { return x != 0 }) {
		return false
	}
	i := im.Text[im.Funcs[f.Func].First+f.At-1]
	return isa.Jumps(i) == api.JumpCall && i.Imm == function
}
