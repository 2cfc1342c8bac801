package memory

import (
	"slices"
	"sort"

	"spindle/api"
)

// rowLength is how many regions a row has at most: what comes or goes moves a part of one row, and seldom the list of rows, however many regions there are.
const rowLength = 128

// shelf keeps regions by rising First, no two of one First, in rows of which none is empty.
type shelf struct {
	rows [][]api.Region
}

// place gives the row, and the place in it, of the last region that begins at or ahead of an address; -1 and -1, if there is none.
func (s *shelf) place(at uint64) (int, int) {
	row := sort.Search(len(s.rows), func(k int) bool { return s.rows[k][0].First > at }) - 1
	if row < 0 {
		return -1, -1
	}
	regions := s.rows[row]
	return row, sort.Search(len(regions), func(k int) bool { return regions[k].First > at }) - 1
}

// upTo gives the last region that begins at or ahead of an address.
func (s *shelf) upTo(at uint64) (api.Region, bool) {
	row, k := s.place(at)
	if row < 0 {
		return api.Region{}, false
	}
	return s.rows[row][k], true
}

// begins tells whether a region begins at an address.
func (s *shelf) begins(first uint64) bool {
	r, found := s.upTo(first)
	return found && r.First == first
}

// add puts in a region; none may begin where it does.
func (s *shelf) add(r api.Region) {
	if len(s.rows) == 0 {
		s.rows = [][]api.Region{{r}}
		return
	}
	row, k := s.place(r.First)
	// What is ahead of all, of which the place is -1, goes to the beginning of the first row.
	row = max(row, 0)
	s.rows[row] = slices.Insert(s.rows[row], k+1, r)
	if len(s.rows[row]) > rowLength {
		s.split(row)
	}
}

// split makes two rows of one.
func (s *shelf) split(row int) {
	whole := s.rows[row]
	half := len(whole) / 2
	upper := slices.Clone(whole[half:])
	s.rows[row] = slices.Delete(whole, half, len(whole))
	s.rows = slices.Insert(s.rows, row+1, upper)
}

// remove takes out the region that begins at an address, and tells whether there was one.
func (s *shelf) remove(first uint64) bool {
	if !s.begins(first) {
		return false
	}
	row, k := s.place(first)
	s.rows[row] = slices.Delete(s.rows[row], k, k+1)
	if len(s.rows[row]) == 0 {
		s.rows = slices.Delete(s.rows, row, row+1)
	}
	return true
}

// all gives the regions in a new list, which shares their bytes.
func (s *shelf) all() []api.Region {
	return slices.Concat(s.rows...)
}
