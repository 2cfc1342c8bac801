package verify

import (
	"spindle/api"
	"spindle/flow"
)

// walk goes over ways of calls. None of the functions that it has gone through is too deep: it ends at the first one that is.
type walk struct {
	graph   *flow.Graph
	lengths []int // of each function that is done how many functions its longest way of calls has, else 0
}

// visit is a function on the way that the walk stands on.
type visit struct {
	function int
	left     []int // the functions that it calls and that are not yet looked at
	behind   int   // how many functions the longest way has from one that is looked at
}

// firstTooDeep gives the first function, in that order, from which a way of calls has more than MaxFrames functions.
func firstTooDeep(g *flow.Graph, order []int) (int, bool) {
	w := walk{g, make([]int, len(order))}
	for _, f := range order {
		if w.tooDeep(f) {
			return f, true
		}
	}
	return 0, false
}

func (w walk) enter(f int) visit {
	callees, _ := w.graph.Calls(f)
	return visit{function: f, left: callees}
}

// tooDeep tells whether a way of calls from f has more than MaxFrames functions. The stack is such a way, so it grows at most one beyond that, and circles need no mark: no function on one gets done, and the walk goes round it until the stack is too long.
func (w walk) tooDeep(f int) bool {
	stack := []visit{w.enter(f)}
	deep := false
walking:
	for len(stack) > 0 {
		top := &stack[len(stack)-1]
		for len(top.left) > 0 {
			callee := top.left[0]
			length := w.lengths[callee]
			if len(stack)+length > api.MaxFrames {
				deep = true
				break walking
			}
			if length == 0 {
				stack = append(stack, w.enter(callee))
				continue walking
			}
			top.behind = max(top.behind, length)
			top.left = top.left[1:]
		}
		w.lengths[top.function] = 1 + top.behind
		stack = stack[:len(stack)-1]
	}
	return deep
}
