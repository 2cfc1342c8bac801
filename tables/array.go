package tables

import "spindle/api"

// array: its entries are all there, whatever is done.
type array struct {
	count int
}

func (a array) find(key []byte) (int, bool) {
	place := number(key)
	return place, place < a.count
}

func (a array) update(there bool, flags uint64) int {
	switch {
	case !there:
		return noEntry
	case flags > flagThere:
		return invalid
	case flags == flagNew:
		return isThere
	}
	return done
}

// isTaken: what is filled in is laid over what is there.
func (a array) isTaken(place int) bool {
	return false
}

func (a array) gate() func(api.Entry) bool {
	return func(entry api.Entry) bool { return number(entry.Key) == entry.Place }
}

// add: no entry is ever new.
func (a array) add(entry api.Entry) {}

func (a array) remove(key []byte) int {
	return invalid
}

func (a array) entries() []api.Entry {
	all := make([]api.Entry, a.count)
	for place := range all {
		all[place] = api.Entry{Key: keyOf(place), Place: place}
	}
	return all
}

// number gives the number that an array's key is, the lowest byte first.
func number(key []byte) int {
	n := 0
	for k, part := range key {
		n |= int(part) << (8 * k)
	}
	return n
}

// keyOf gives the key of the entry of that number.
func keyOf(place int) []byte {
	key := make([]byte, arrayKey)
	for k := range key {
		key[k] = byte(place >> (8 * k))
	}
	return key
}
