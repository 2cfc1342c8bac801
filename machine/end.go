package machine

import (
	"spindle/api"
)

// ending is what a frozen state tells of an outcome.
type ending struct {
	kind   int
	word   uint64
	code   api.Errno
	name   string
	object int
	at     int
}

func endingOf(o api.Outcome) ending {
	return ending{kind: o.Kind, word: o.Word, code: o.Code, name: o.Func, object: o.Object, at: o.At}
}

func (e ending) outcome() api.Outcome {
	return api.Outcome{Kind: e.kind, Word: e.word, Code: e.code, Func: e.name, Object: e.object, At: e.at}
}

// stopHere ends the run at the place of the alive frame.
func (m *Machine) stopHere(kind int, code api.Errno) {
	f := m.image.Funcs[m.function]
	m.stop(ending{kind: kind, code: code, name: f.Name, object: f.Object, at: m.at})
}

// stop ends the run.
func (m *Machine) stop(end ending) {
	for d := range len(m.calls) + 1 {
		m.removeFrame(d)
	}
	m.calls, m.frame, m.regs = nil, frame{}, [registers]uint64{}
	m.end = end
}

// outcome gives what a run that is over has come to.
func (m *Machine) outcome() api.Outcome {
	o := m.end.outcome()
	o.Context, o.Tables = m.contextBytes(), m.contents()
	o.Fuel, o.Draws = m.fuel, m.used
	return o
}

// contextBytes gives a copy of the context as it is now.
func (m *Machine) contextBytes() []byte {
	return m.bytesAt(api.ContextAt, m.context)
}

// bytesAt gives a copy of bytes that are there.
func (m *Machine) bytesAt(at uint64, n int) []byte {
	b, _ := m.space.Bytes(at, n)
	return b
}

// contents gives the entries of all tables.
func (m *Machine) contents() []api.Contents {
	all := make([]api.Contents, 0, len(m.tables))
	for k, d := range m.image.Tables {
		all = append(all, api.Contents{Table: d.Name, Entries: m.entries(k)})
	}
	return all
}

// entries gives the entries of the table of a number, whose region is always there.
func (m *Machine) entries(k int) []api.Entry {
	es, _ := m.tables[k].Contents()
	return es
}
