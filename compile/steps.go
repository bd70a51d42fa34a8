package compile

import (
	"assize/api"
)

// stepInstrs: what stands behind the expressions of a step, where its kind alone says it.
var stepInstrs = [...]int{api.Give: api.Back, api.Need: api.Must, api.Tell: api.Say, api.PayOut: api.Hand}

// block puts the steps of a block, and tells whether it ends (chapter 6).
func (m *maker) block(l []api.Stmt) bool {
	visible := len(m.locals)
	ends := false
	for _, s := range l {
		ends = m.step(s)
	}
	m.locals = m.locals[:visible]
	return ends
}

// step tells whether a block ends with it.
func (m *maker) step(s api.Stmt) bool {
	switch s.Kind {
	case api.If:
		return m.branch(s)
	case api.While:
		m.loop(s)
		return false
	case api.Ask:
		m.ask(s)
		return false
	}
	m.exprs(s.Exprs)
	switch s.Kind {
	case api.Let:
		m.declare(s.Name)
		m.variable(s.Name, api.Store, api.Write)
	case api.Set:
		m.variable(s.Name, api.Store, api.Write)
	case api.Put:
		m.table(s.Name, api.Stow)
	default:
		m.put(stepInstrs[s.Kind], 0)
	}
	return s.Kind == api.Give
}

func (m *maker) branch(s api.Stmt) bool {
	m.expr(s.Exprs[0])
	other := m.away(api.Zero)
	ends := m.block(s.Body)
	if len(s.Else) == 0 {
		m.arrive(other)
		return false
	}
	if ends {
		m.arrive(other)
		return m.block(s.Else)
	}
	behind := m.away(api.Jump)
	m.arrive(other)
	m.block(s.Else)
	m.arrive(behind)
	return false
}

func (m *maker) loop(s api.Stmt) {
	again := len(m.body)
	m.expr(s.Exprs[0])
	behind := m.away(api.Zero)
	m.block(s.Body)
	m.put(api.Jump, again)
	m.arrive(behind)
}

// ask puts its expressions as the text has them: the arguments ahead of value and gas.
func (m *maker) ask(s api.Stmt) {
	whom, valueAndGas, args := s.Exprs[:1], s.Exprs[1:3], s.Exprs[3:]
	m.exprs(whom)
	m.exprs(args)
	m.exprs(valueAndGas)
	m.reach(s.Call, len(args))
	m.variable(s.Name, api.Store, api.Write)
	m.variable(s.Also, api.Store, api.Write)
}
