package trace

import (
	"spindle/api"
	"spindle/core"
)

// opening is what the bytes of each run begin with.
const opening = "TRC1"

// How many bytes numbers have: whether a run is over, and the kind of its end; a fault's code; what is counted or numbered; registers, draws, and how many steps.
const (
	flagSize  = 1
	codeSize  = 2
	countSize = 4
	wordSize  = 8
)

// The room that is set aside for bytes: of a frame, and of all fields together that are none of a frame and no items of a list.
const (
	frameSize = 2*countSize + core.TopReg*wordSize + api.MaxFrame
	otherSize = 64
)
