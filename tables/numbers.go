package tables

// nowhere is the place of a number that is not in the list, and the least of an empty one.
const nowhere = -1

// numbers is a heap (container/heap) of the numbers that no entry has, so that the least is the first of the list. It knows where in the list each one stands, so that an entry can come at any of them without a search.
type numbers struct {
	list  []int
	where []int // of each number; nowhere, if an entry has it
}

// allNumbers gives the heap of the numbers 0 to count - 1: a list that rises is one.
func allNumbers(count int) *numbers {
	n := &numbers{list: make([]int, count), where: make([]int, count)}
	for k := range count {
		n.list[k], n.where[k] = k, k
	}
	return n
}

// least gives the least of the numbers; nowhere, if there is none.
func (n *numbers) least() int {
	if len(n.list) == 0 {
		return nowhere
	}
	return n.list[0]
}

func (n *numbers) has(number int) bool {
	return n.where[number] != nowhere
}

func (n *numbers) Len() int {
	return len(n.list)
}

func (n *numbers) Less(a, b int) bool {
	return n.list[a] < n.list[b]
}

func (n *numbers) Swap(a, b int) {
	n.list[a], n.list[b] = n.list[b], n.list[a]
	n.where[n.list[a]], n.where[n.list[b]] = a, b
}

func (n *numbers) Push(number any) {
	k := number.(int)
	n.where[k] = len(n.list)
	n.list = append(n.list, k)
}

func (n *numbers) Pop() any {
	end := len(n.list) - 1
	last := n.list[end]
	n.list = n.list[:end]
	n.where[last] = nowhere
	return last
}
