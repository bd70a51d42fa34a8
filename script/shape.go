package script

import (
	"assize/api"
)

// Here stands which contracts are such as Parse gives, but for how long and how deep they are.

// exprForm: has an expression a Name, and how many Args?
type exprForm struct {
	named bool
	args  int
}

const anyNumber = -1

var exprFields = [...]exprForm{
	api.Name: {named: true}, api.At: {named: true, args: 1}, api.Use: {named: true, args: anyNumber},
	api.Or: {args: 2}, api.And: {args: 2}, api.Not: {args: 1},
	api.Eq: {args: 2}, api.Ne: {args: 2}, api.Lt: {args: 2}, api.Le: {args: 2}, api.Gt: {args: 2}, api.Ge: {args: 2},
	api.Add: {args: 2}, api.Sub: {args: 2}, api.Mul: {args: 2}, api.Div: {args: 2}, api.Mod: {args: 2},
	api.Balance: {args: 1}, api.AsWho: {args: 1}, api.AsNum: {args: 1},
}

// stepForm: which fields has a step, and how many Exprs? asks: Also, Call, and any number of Exprs behind those.
type stepForm struct {
	named, typed, asks, body, other bool
	exprs                           int
}

var stepFields = [...]stepForm{
	api.Let: {named: true, typed: true, exprs: 1},
	api.Set: {named: true, exprs: 1}, api.Put: {named: true, exprs: 2},
	api.If: {exprs: 1, body: true, other: true}, api.While: {exprs: 1, body: true},
	api.Give: {exprs: 1}, api.Need: {exprs: 1}, api.PayOut: {exprs: 2}, api.Tell: {exprs: 1},
	api.Ask: {named: true, asks: true, exprs: 3},
}

func all[T any](l []T, such func(T) bool) bool {
	for _, x := range l {
		if !such(x) {
			return false
		}
	}
	return true
}

func formed(c api.Contract) bool {
	return isName(c.Name) && all(c.Slots, formedParam) && all(c.Tables, formedTable) && all(c.Fns, formedFn)
}

func isKind(n int) bool { return n >= api.Num && n <= api.Who }

func formedParam(p api.Param) bool { return isName(p.Name) && isKind(p.Type) }

func formedTable(t api.Table) bool { return isName(t.Name) && isKind(t.From) && isKind(t.To) }

func formedFn(f api.Fn) bool {
	return isName(f.Name) && all(f.Params, formedParam) && isKind(f.Type) && all(f.Body, formedStep)
}

// nameIf: is it a name where there is to be one, and nothing where there is to be none?
func nameIf(wanted bool, s string) bool {
	if wanted {
		return isName(s)
	}
	return s == ""
}

func kindIf(wanted bool, kind int) bool {
	if wanted {
		return isKind(kind)
	}
	return kind == 0
}

func formedStep(s api.Stmt) bool {
	if s.Kind < api.Let || s.Kind > api.Ask {
		return false
	}
	f := stepFields[s.Kind]
	if !nameIf(f.named, s.Name) || !nameIf(f.asks, s.Also) || !nameIf(f.asks, s.Call) || !kindIf(f.typed, s.Type) {
		return false
	}
	if len(s.Exprs) < f.exprs || len(s.Exprs) > f.exprs && !f.asks {
		return false
	}
	if len(s.Body) > 0 && !f.body || len(s.Else) > 0 && !f.other {
		return false
	}
	return all(s.Exprs, formedExpr) && all(s.Body, formedStep) && all(s.Else, formedStep)
}

func formedExpr(x api.Expr) bool {
	if x.Op < api.Number || x.Op > api.AsNum {
		return false
	}
	f := exprFields[x.Op]
	if !nameIf(f.named, x.Name) || x.N < 0 || x.N > mostOf(x.Op) {
		return false
	}
	if len(x.Args) != f.args && f.args != anyNumber {
		return false
	}
	return all(x.Args, formedExpr)
}

// mostOf is the greatest N that an expression may have.
func mostOf(op int) int {
	switch op {
	case api.Number:
		return api.MaxNumber
	case api.Truth:
		return 1
	}
	return 0
}
