package verify

import (
	"math/rand"
	"testing"

	"spindle/api"
)

// frame is a frame of a run: a function, and the slot in it of the instruction that would be next.
type frame struct{ f, slot int }

// run goes through an image's steps as DOC.md says (A step), as far as structure goes: whether a branch is taken is left to chance, and memory is always fine.
type run struct {
	im     api.Image
	frames []frame
	chance *rand.Rand
}

// number gives the number of the instruction of a function that begins at a slot, or how many there are, if none does.
func (r *run) number(f, slot int) int {
	body := readBody(r.im, f)
	for at := range body {
		if readSlot(body, at) == slot {
			return at
		}
	}
	return len(body)
}

// step gives the structural fault of a step, or OK. At the end of the run there are no frames.
func (r *run) step() api.Errno {
	top := &r.frames[len(r.frames)-1]
	body := readBody(r.im, top.f)
	at := r.number(top.f, top.slot)
	if at == len(body) {
		return api.FaultPlace
	}
	i := body[at]
	if !readMay(i) {
		return api.FaultInsn
	}
	if e := r.operands(i, *top, len(body)); e != api.OK {
		return e
	}
	behind := readSlot(body, at+1)
	switch {
	case i.Op == 0x05, readLeads(i) && i.Op != 0x06 && r.chance.Intn(2) == 0:
		top.slot += 1 + i.Off
	case i.Op == 0x06:
		top.slot += 1 + i.Imm
	case i.Op == 0x95:
		r.frames = r.frames[:len(r.frames)-1]
	case i.Op == 0x85 && i.Src == 1:
		top.slot = behind
		r.frames = append(r.frames, frame{i.Imm, 0})
	default:
		top.slot = behind
	}
	return api.OK
}

// operands gives the fault of an instruction's operands, or OK.
func (r *run) operands(i api.Insn, top frame, count int) api.Errno {
	to := top.slot + 1 + i.Off
	if i.Op == 0x06 {
		to = top.slot + 1 + i.Imm
	}
	switch {
	case readWrites(i, 10):
		return api.FaultWrite
	case i.Op == 0x18 && i.Src == 1 && (i.Imm < 0 || i.Imm >= len(r.im.Tables)):
		return api.FaultTable
	case readLeads(i) && r.number(top.f, to) == count:
		return api.FaultPlace
	case i.Op == 0x85 && i.Src == 1 && (i.Imm < 0 || i.Imm >= len(r.im.Funcs)):
		return api.FaultCall
	case i.Op == 0x85 && i.Src == 1 && len(r.frames) == 8:
		return api.FaultDeep
	case i.Op == 0x85 && i.Src == 0 && (i.Imm < 1 || i.Imm > 4):
		return api.FaultHelper
	}
	return api.OK
}

// fault gives the structural fault of a run from a function on, or OK, and how many frames there were at the most.
func fault(im api.Image, entry int, chance *rand.Rand) (api.Errno, int) {
	r := &run{im, []frame{{entry, 0}}, chance}
	most := 0
	for range 80 {
		most = max(most, len(r.frames))
		if len(r.frames) == 0 {
			break
		}
		if e := r.step(); e != api.OK {
			return e, most
		}
	}
	return api.OK, most
}

// wantNoFault: of an image that Check takes no run has a structural fault, whatever its entry is.
func wantNoFault(t *testing.T, im api.Image, chance *rand.Rand) int {
	t.Helper()
	most := 0
	for f := range im.Funcs {
		for range 4 {
			e, n := fault(im, f, chance)
			if e != api.OK {
				t.Fatalf("P19.3, T9: a run from function %d has the fault %d; the image: %s", f, e, short(im))
			}
			most = max(most, n)
		}
	}
	return most
}

// TestRuns: images of chance that are put right have no fault; as they come they have each of the faults.
func TestRuns(t *testing.T) {
	t.Parallel()
	r := rand.New(rand.NewSource(9))
	faults, deepest := map[api.Errno]int{}, 0
	for range 3000 {
		im := chanceImage(r, 6, 8)
		if e, _ := fault(im, im.Entry, r); e != api.OK {
			faults[e]++
			if a := checked(im); a.e == api.OK {
				t.Fatalf("T9: Check takes an image with the fault %d: %s", e, short(im))
			}
		}
		wantNoFault(t, mended(t, im), r)
	}
	for range 2000 {
		im := chanceCalls(r)
		if e, _ := fault(im, im.Entry, r); e != api.OK {
			faults[e]++
		}
		deepest = max(deepest, wantNoFault(t, mended(t, im), r))
	}
	for e := api.FaultInsn; e <= api.FaultDeep; e++ {
		if faults[e] < 20 {
			t.Errorf("only %d runs had the fault %d: %v", faults[e], e, faults)
		}
	}
	if deepest != 8 {
		t.Errorf("T9: %d frames at the most, want 8", deepest)
	}
}
