package tables

import (
	"cmp"
	"container/heap"
	"slices"

	"spindle/api"
)

// hash: its entries come and go.
type hash struct {
	places map[string]int // the entries' numbers, by their keys
	free   *numbers
}

func newHash(count int) *hash {
	return &hash{places: map[string]int{}, free: allNumbers(count)}
}

func (h *hash) find(key []byte) (int, bool) {
	if place, there := h.places[string(key)]; there {
		return place, true
	}
	return h.free.least(), false
}

func (h *hash) update(there bool, flags uint64) int {
	switch {
	case flags > flagThere:
		return invalid
	case flags == flagNew && there:
		return isThere
	case flags == flagThere && !there:
		return noEntry
	case !there && h.free.Len() == 0:
		return noRoom
	}
	return done
}

func (h *hash) isTaken(place int) bool {
	return !h.free.has(place)
}

// gate: no key of the table, and none twice in the list.
func (h *hash) gate() func(api.Entry) bool {
	ahead := map[string]int{}
	return func(entry api.Entry) bool {
		key := string(entry.Key)
		_, there := h.places[key]
		_, twice := ahead[key]
		ahead[key] = entry.Place
		return !there && !twice
	}
}

func (h *hash) add(entry api.Entry) {
	h.places[string(entry.Key)] = entry.Place
	heap.Remove(h.free, h.free.where[entry.Place])
}

func (h *hash) remove(key []byte) int {
	place, there := h.find(key)
	if !there {
		return noEntry
	}
	delete(h.places, string(key))
	heap.Push(h.free, place)
	return done
}

func (h *hash) entries() []api.Entry {
	all := make([]api.Entry, 0, len(h.places))
	for key, place := range h.places {
		all = append(all, api.Entry{Key: []byte(key), Place: place})
	}
	slices.SortFunc(all, func(a, b api.Entry) int { return cmp.Compare(a.Place, b.Place) })
	return all
}
