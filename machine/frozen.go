package machine

import (
	"slices"

	"spindle/api"
	"spindle/core"
)

// frozenFrames gives the frames, from the entry's on; behind the end none.
func (m *Machine) frozenFrames() []api.Frame {
	if m.isOver() {
		return nil
	}
	all := make([]api.Frame, 0, len(m.calls)+1)
	for d, c := range m.calls {
		var regs [core.Registers]uint64
		copy(regs[core.FirstKept:], c.kept[:])
		all = append(all, m.frozenFrame(d, c.frame, regs))
	}
	return append(all, m.frozenFrame(len(m.calls), m.frame, m.core.Regs))
}

func (m *Machine) frozenFrame(d int, f frame, regs [core.Registers]uint64) api.Frame {
	return api.Frame{Func: f.function, At: f.at, Regs: slices.Clone(regs[:]), Bytes: m.core.BytesAt(core.Bottom(d), api.MaxFrame)}
}

// frozenTables gives the tables' regions.
func (m *Machine) frozenTables() []api.Region {
	all := make([]api.Region, 0, len(m.image.Tables))
	for k, d := range m.image.Tables {
		all = append(all, api.Region{First: core.Handle(k), Data: m.core.BytesAt(core.Handle(k), core.RegionSize(d))})
	}
	return all
}

// frozenEntries gives the hash tables' entries, whose values stand in the regions.
func (m *Machine) frozenEntries() []api.Contents {
	var all []api.Contents
	for k, d := range m.image.Tables {
		if d.Kind != api.TableHash {
			continue
		}
		es := m.core.Entries(k)
		for n := range es {
			es[n].Value = nil
		}
		all = append(all, api.Contents{Table: d.Name, Entries: es})
	}
	return all
}

// thawTables puts the tables' entries back, and lays their regions over them; or tells that the entries may not be.
func (m *Machine) thawTables(f api.Frozen) bool {
	hashes := 0
	for k, d := range m.image.Tables {
		if d.Kind == api.TableHash {
			if !m.thawEntries(k, f.Entries[hashes].Entries) {
				return false
			}
			hashes++
		}
		m.core.Space.Put(core.Handle(k), f.Tables[k].Data)
	}
	return true
}

func (m *Machine) thawEntries(k int, frozen []api.Entry) bool {
	value := make([]byte, m.image.Tables[k].Value)
	es := make([]api.Entry, 0, len(frozen))
	for _, e := range frozen {
		if len(e.Value) != 0 {
			return false
		}
		es = append(es, api.Entry{Key: e.Key, Value: value, Place: e.Place})
	}
	_, e := m.core.Tables[k].Fill(es)
	return e == api.OK
}

// thawFrames puts the frames back, the last of which is the alive one; behind the end there are none.
func (m *Machine) thawFrames(fs []api.Frame) {
	for d, f := range fs {
		stands := frame{function: f.Func, at: f.At}
		m.core.AddFrame(d, f.Bytes)
		if d < len(fs)-1 {
			m.calls = append(m.calls, call{stands, core.Kept(f.Regs[core.FirstKept:])})
		} else {
			m.frame, m.core.Regs = stands, [core.Registers]uint64(f.Regs)
		}
	}
}
