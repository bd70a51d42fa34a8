package compile

import (
	"assize/api"
)

// exprInstrs: what stands behind the parts of an expression, where its operator alone says it.
var exprInstrs = [...]int{
	api.Not: api.Flip, api.Eq: api.Same, api.Ne: api.Same,
	api.Lt: api.Under, api.Le: api.Above, api.Gt: api.Above, api.Ge: api.Under,
	api.Add: api.Plus, api.Sub: api.Minus, api.Mul: api.Times, api.Div: api.Over, api.Mod: api.Rest,
	api.Self: api.Me, api.Caller: api.From, api.Value: api.Paid, api.Height: api.High, api.Balance: api.Purse,
}

func (m *maker) exprs(l []api.Expr) {
	for _, x := range l {
		m.expr(x)
	}
}

func (m *maker) expr(x api.Expr) {
	switch x.Op {
	case api.Or:
		m.or(x)
	case api.And:
		m.and(x)
	default:
		m.exprs(x.Args)
		m.operate(x)
	}
}

// operate puts what is done with the parts of an expression.
func (m *maker) operate(x api.Expr) {
	switch x.Op {
	case api.Number, api.Truth:
		m.put(api.Push, x.N)
	case api.Name:
		m.variable(x.Name, api.Load, api.Read)
	case api.At:
		m.table(x.Name, api.Seek)
	case api.Use:
		m.enter(x.Name)
	case api.AsWho, api.AsNum: // the number stays what it is
	case api.Ne, api.Le, api.Ge:
		m.put(exprInstrs[x.Op], 0)
		m.put(api.Flip, 0)
	default:
		m.put(exprInstrs[x.Op], 0)
	}
}

func (m *maker) or(x api.Expr) {
	m.expr(x.Args[0])
	second := m.away(api.Zero)
	m.put(api.Push, 1)
	behind := m.away(api.Jump)
	m.arrive(second)
	m.expr(x.Args[1])
	m.arrive(behind)
}

func (m *maker) and(x api.Expr) {
	m.expr(x.Args[0])
	no := m.away(api.Zero)
	m.expr(x.Args[1])
	behind := m.away(api.Jump)
	m.arrive(no)
	m.put(api.Push, 0)
	m.arrive(behind)
}
