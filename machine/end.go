package machine

import (
	"spindle/api"
)

// ending is what a frozen state tells of an outcome.
type ending struct {
	kind   int
	word   uint64
	code   api.Errno
	name   string
	object int
	at     int
}

func endingOf(o api.Outcome) ending {
	return ending{kind: o.Kind, word: o.Word, code: o.Code, name: o.Func, object: o.Object, at: o.At}
}

func (e ending) outcome() api.Outcome {
	return api.Outcome{Kind: e.kind, Word: e.word, Code: e.code, Func: e.name, Object: e.object, At: e.at}
}

// stopHere ends the run at the place of the alive frame.
func (m *Machine) stopHere(kind int, code api.Errno) {
	f := m.image.Funcs[m.function]
	m.stop(ending{kind: kind, code: code, name: f.Name, object: f.Object, at: m.at})
}

// stop ends the run.
func (m *Machine) stop(end ending) {
	for d := range len(m.calls) + 1 {
		m.core.RemoveFrame(d)
	}
	clear(m.core.Regs[:])
	m.calls, m.frame, m.end = nil, frame{}, end
}

// outcome gives what a run that is over has come to.
func (m *Machine) outcome() api.Outcome {
	return m.core.Told(m.end.outcome())
}
