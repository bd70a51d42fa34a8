package compile

import (
	"slices"
	"strings"

	"assize/api"
)

// A maker makes code of a contract that may be: each name in it is that of
// something, and of what may stand there.
type maker struct {
	contract api.Contract
	names    []string // of functions of others
	body     []api.Instr
	locals   []string // those that are visible: a local is its place here
	most     int      // that were visible at once
}

func (m *maker) put(op, a int) { m.body = append(m.body, api.Instr{Op: op, A: a}) }

// away puts a Jump or Zero to a place that is not known yet; arrive is told where that jump stands.
func (m *maker) away(op int) int {
	m.put(op, 0)
	return len(m.body) - 1
}

// arrive lets a jump lead to what is put next.
func (m *maker) arrive(jump int) { m.body[jump].A = len(m.body) }

func (m *maker) declare(name string) {
	m.locals = append(m.locals, name)
	m.most = max(m.most, len(m.locals))
}

// variable puts what is done with a local, or what is done with a slot.
func (m *maker) variable(name string, ofLocal, ofSlot int) {
	if n := slices.Index(m.locals, name); n >= 0 {
		m.put(ofLocal, n)
		return
	}
	m.put(ofSlot, slices.IndexFunc(m.contract.Slots, func(p api.Param) bool { return p.Name == name }))
}

// table puts what is done with a map: maps are numbered behind the slots.
func (m *maker) table(name string, op int) {
	n := slices.IndexFunc(m.contract.Tables, func(t api.Table) bool { return t.Name == name })
	m.put(op, len(m.contract.Slots)+n)
}

func (m *maker) enter(name string) {
	m.put(api.Enter, slices.IndexFunc(m.contract.Fns, func(f api.Fn) bool { return f.Name == name }))
}

// reach puts how a function of another is called.
func (m *maker) reach(name string, args int) {
	n := slices.Index(m.names, name)
	if n < 0 {
		n = len(m.names)
		m.names = append(m.names, strings.Clone(name))
	}
	m.body = append(m.body, api.Instr{Op: api.Reach, A: args, B: n})
}
