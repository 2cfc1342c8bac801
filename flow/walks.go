package flow

import (
	"spindle/api"
)

// endless stands in place of how many functions the longest way of calls has where ways come to a circle.
const endless = 0

// reached tells of each instruction whether it is reached.
func (f function) reached() []bool {
	seen := make([]bool, len(f.steps))
	var walk func(at int)
	// A walk goes straight on as far as it can, so that it is nested only as deep as branches lead to one another.
	walk = func(at int) {
		for f.has(at) && !seen[at] {
			seen[at] = true
			switch s := f.steps[at]; s.kind {
			case api.JumpExit:
				return
			case api.JumpAlways:
				at = s.target
			case api.JumpMaybe:
				walk(s.target)
				at++
			default:
				at++
			}
		}
	}
	walk(0)
	return seen
}

// longestWays gives of each function how many functions the longest way of calls from it has, or that there are endless ones.
func longestWays(functions []function) map[int]int {
	done := make(map[int]int, len(functions))
	var walk func(f int) int
	walk = func(f int) int {
		if longest, there := done[f]; there {
			return longest
		}
		// As long as f is not done, whoever calls it is called from it: a circle.
		done[f] = endless
		longest := 1
		for _, callee := range functions[f].calls {
			behind := walk(callee)
			if behind == endless {
				return endless
			}
			longest = max(longest, 1+behind)
		}
		done[f] = longest
		return longest
	}
	for f := range functions {
		walk(f)
	}
	return done
}
