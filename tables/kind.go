package tables

import "spindle/api"

// What the calls of a table answer (DOC.md, Kinds).
const (
	done    = 0
	noEntry = -2
	noRoom  = -7
	isThere = -17
	invalid = -22
)

// The flags of an update: an entry that comes anew and one that is there are both fine, or one of them alone. A greater number is no flag.
const (
	flagNew   = 1
	flagThere = 2
)

// kind is what arrays and hashes do each in its own way. It knows the entries' keys and numbers, and nothing of their values.
type kind interface {
	// find gives the number of the entry with that key and true; if there is none, the number at which it would come and false.
	find(key []byte) (int, bool)
	// update tells what an update comes to if an entry with its key is there or not; done, where nothing is against it.
	update(there bool, flags uint64) int
	// isTaken tells whether no entry can come at that number, one of the table's.
	isTaken(place int) bool
	// gate gives a function that tells of the entries of one list, one behind the other, whether each may have the key that it has.
	gate() func(api.Entry) bool
	// add lets in an entry that is not there, at a number that is not taken.
	add(entry api.Entry)
	// remove takes out the entry with that key, and tells what came of it.
	remove(key []byte) int
	// entries gives the entries, by rising number, without their values.
	entries() []api.Entry
}

// kindOf gives what is of an array's or a hash's own.
func kindOf(d api.TableDef) kind {
	if d.Kind == api.TableArray {
		return array{count: d.Entries}
	}
	return newHash(d.Entries)
}
