package symtab

// sort is one of the four sorts of symbols. It knows what may stand in the fields of its symbols.
type sort interface {
	// rank is the sort's number; it does not fall in a table.
	rank() int
	section() int
	hasValue(n int) bool
	hasSize(n int) bool
	// follows tells whether a symbol with such a value may stand behind a run of its sort.
	follows(ahead run, value int) bool
}

// function is what both sorts of functions have in common.
type function struct{}

type local struct{ function }

type table struct{}

type global struct{ function }

type extern struct{}

const tableSize = 16

// sortOf tells the sorts apart by an entry's fifth byte.
func sortOf(fifth int) (sort, bool) {
	switch fifth {
	case 0x02:
		return local{}, true
	case 0x01:
		return table{}, true
	case 0x12:
		return global{}, true
	case 0x10:
		return extern{}, true
	}
	return nil, false
}

func (local) rank() int { return 1 }

func (table) rank() int { return 2 }

func (global) rank() int { return 3 }

func (extern) rank() int { return 4 }

func (function) section() int { return 1 }

func (function) hasValue(n int) bool { return n >= 0 && n%8 == 0 }

func (function) hasSize(n int) bool { return n > 0 && n%8 == 0 }

func (function) follows(ahead run, value int) bool {
	return ahead.count == 0 || value > ahead.value
}

func (table) section() int { return 2 }

func (table) hasValue(n int) bool { return n >= 0 && n%tableSize == 0 }

func (table) hasSize(n int) bool { return n == tableSize }

func (table) follows(ahead run, value int) bool {
	return value == tableSize*ahead.count
}

func (extern) section() int { return 0 }

func (extern) hasValue(n int) bool { return n == 0 }

func (extern) hasSize(n int) bool { return n == 0 }

func (extern) follows(run, int) bool { return true }

// run is what stands ahead of a symbol: the last sort, how many symbols of it there are, and the last one's value. The zero run has nothing ahead.
type run struct {
	rank, count, value int
}

// take puts a symbol that may be behind the run, and tells whether it is in order there; if not, the run is of no use any more.
func (r *run) take(kind sort, value int) bool {
	if kind.rank() > r.rank {
		*r = run{rank: kind.rank()}
	}
	if kind.rank() < r.rank || !kind.follows(*r, value) {
		return false
	}
	r.count++
	r.value = value
	return true
}
