package symbolic

import (
	"spindle/api"
	"spindle/core"
)

// place is a step, by numbers: of a function of a module.
type place struct {
	module   int
	function int
	at       int
}

// frame is a function that has not come back: the place of the step that would be next in it, and, while it waits for a function that it calls, the registers that will be its own again.
type frame struct {
	place
	kept core.Kept
}

// alive gives the frame of the function that runs.
func (m *Machine) alive() *frame {
	return &m.frames[len(m.frames)-1]
}

// enter calls the function that a name means where the alive frame stands.
func (m *Machine) enter(name string) api.Errno {
	d := len(m.frames)
	if d == api.MaxFrames {
		return api.FaultDeep
	}
	caller := m.alive()
	caller.at++
	caller.kept = m.core.Enter(d)
	m.frames = append(m.frames, frame{place: m.units[caller.module].meanings[name]})
	return api.OK
}

// leave comes back from a function, of the first one to the run's end.
func (m *Machine) leave() {
	d := len(m.frames) - 1
	if d == 0 {
		m.stop(api.Outcome{Kind: api.Returned, Word: m.core.Regs[core.AnswerReg]})
		return
	}
	m.frames = m.frames[:d]
	m.core.Leave(d, m.alive().kept)
}

// stop ends the run.
func (m *Machine) stop(end api.Outcome) {
	m.units, m.frames, m.end = nil, nil, end
}

// stopHere ends the run at the place of the alive frame.
func (m *Machine) stopHere(kind int, code api.Errno) {
	p := m.alive().place
	m.stop(api.Outcome{Kind: kind, Code: code, Func: m.functionAt(p).name, Object: p.module, At: p.at})
}
