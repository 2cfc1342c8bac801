package tidy

// change gives steps that do the same, and whether they are others. It may write over those that it is given.
type change func(body) (body, bool)

// changes gives the changes in such an order that each is to be made but once: none gives those ahead of it anything to do.
func changes() []change {
	return []change{
		dropSelfMoves,
		leadJumpsOn,
		dropUnreached,
		dropIdleJumps,
	}
}

const opMove = 0xbf // mov of 64 bits by a register, and where Off is not 0 one of the movs

func (s step) movesToItself() bool {
	return s.insn.Op == opMove && s.insn.Off == 0 && s.insn.Dst == s.insn.Src
}

func dropSelfMoves(b body) (body, bool) {
	gone := make([]bool, len(b))
	for at, s := range b {
		gone[at] = s.movesToItself()
	}
	return b.without(gone)
}

// leadJumpsOn lets each jump lead to its last place.
func leadJumpsOn(b body) (body, bool) {
	lasts := b.lastPlaces()
	changed := false
	for at, last := range lasts {
		if last != nowhere && last != b[at].target {
			b[at].target = last
			changed = true
		}
	}
	return b, changed
}

func dropUnreached(b body) (body, bool) {
	gone := b.reached()
	for at, reached := range gone {
		gone[at] = !reached
	}
	return b.without(gone)
}

// dropIdleJumps drops each jump between which and its target nothing is left, but such as are dropped too. From the end on, so that one that is dropped makes those ahead of it idle at once.
func dropIdleJumps(b body) (body, bool) {
	gone := make([]bool, len(b))
	stays := len(b) // the first place behind that stays
	for at := len(b) - 1; at >= 0; at-- {
		target := b[at].target
		gone[at] = b[at].jumps() && at < target && target <= stays
		if !gone[at] {
			stays = at
		}
	}
	return b.without(gone)
}
