package tidy

// lastPlaces gives of each jump's place the last place of the jump, or nowhere.
func (b body) lastPlaces() map[int]int {
	lasts := map[int]int{}
	for at := range b {
		b.follow(at, lasts)
	}
	return lasts
}

// follow goes from jump to jump as far as no last place is known, and notes that of each jump on the way.
func (b body) follow(at int, lasts map[int]int) {
	var way []int
	for b[at].jumps() {
		if last, met := lasts[at]; met {
			at = last
			break
		}
		// As long as its last place is not known, whoever comes to it comes round in a circle.
		lasts[at] = nowhere
		way = append(way, at)
		at = b[at].target
	}
	for _, place := range way {
		lasts[place] = at
	}
}

// reached tells of each step whether it is reached.
func (b body) reached() []bool {
	reached := make([]bool, len(b))
	for left := []int{0}; len(left) > 0; {
		at := left[len(left)-1]
		left = left[:len(left)-1]
		if reached[at] {
			continue
		}
		reached[at] = true
		if b[at].leads() {
			left = append(left, b[at].target)
		}
		if b[at].goesOn() {
			left = append(left, at+1)
		}
	}
	return reached
}
