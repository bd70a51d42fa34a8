package script

import (
	"assize/api"
)

func (r *reader) step() api.Stmt {
	if r.now.class == name {
		return r.gift()
	}
	kind := r.stepKind()
	if kind == 0 {
		r.wrong()
		return api.Stmt{}
	}
	r.next()
	switch kind {
	case api.If, api.While:
		return r.branch(kind)
	case api.Let:
		return r.let()
	case api.Ask:
		return r.ask()
	}
	s := api.Stmt{Kind: kind, Exprs: []api.Expr{r.expr(ors)}}
	if kind == api.PayOut {
		r.take(",")
		s.Exprs = append(s.Exprs, r.expr(ors))
	}
	r.take(";")
	return s
}

// stepKind is what step the word that stands there begins: 0 if none.
func (r *reader) stepKind() int {
	for kind := api.Let; kind <= api.Ask; kind++ {
		if r.is(stepWords[kind]) {
			return kind
		}
	}
	return 0
}

// gift reads a step that gives a variable, or a map, something.
func (r *reader) gift() api.Stmt {
	s := api.Stmt{Kind: api.Set, Name: r.name()}
	if r.is("[") {
		s.Kind = api.Put
		s.Exprs = append(s.Exprs, r.inner("[", "]"))
	}
	r.take("=")
	s.Exprs = append(s.Exprs, r.expr(ors))
	r.take(";")
	return s
}

func (r *reader) let() api.Stmt {
	p := r.param()
	s := api.Stmt{Kind: api.Let, Name: p.Name, Type: p.Type}
	r.take("=")
	s.Exprs = append(s.Exprs, r.expr(ors))
	r.take(";")
	return s
}

func (r *reader) branch(kind int) api.Stmt {
	s := api.Stmt{Kind: kind, Exprs: []api.Expr{r.expr(ors)}}
	s.Body = r.block()
	if kind == api.If && r.is("else") {
		r.take("else")
		s.Else = r.block()
	}
	return s
}

func (r *reader) ask() api.Stmt {
	s := api.Stmt{Kind: api.Ask, Name: r.name()}
	r.take(",")
	s.Also = r.name()
	r.take("=")
	whom := r.expr(ors)
	r.take(".")
	s.Call = r.name()
	args := r.args()
	r.take("value")
	value := r.expr(ors)
	r.take("gas")
	gas := r.expr(ors)
	r.take(";")
	s.Exprs = append([]api.Expr{whom, value, gas}, args...)
	return s
}

// expr reads an expression that holds together at least as tightly as its rank says.
func (r *reader) expr(rank int) api.Expr {
	switch {
	case rank == atoms:
		return r.atom()
	case rank == nots && r.is("not"):
		return r.not()
	case rank == nots:
		return r.expr(rank + 1)
	}
	x := r.expr(rank + 1)
	for op := r.operator(rank); op != 0; op = r.operator(rank) {
		r.next()
		x = api.Expr{Op: op, Args: []api.Expr{x, r.expr(rank + 1)}}
		if rank == compares {
			break
		}
	}
	return x
}

// operator is which one of that rank stands there: 0 if none.
func (r *reader) operator(rank int) int {
	for op := api.Or; op <= api.AsNum; op++ {
		if rankOf(op) == rank && r.is(exprWords[op]) {
			return op
		}
	}
	return 0
}

func (r *reader) not() api.Expr {
	r.deeper()
	r.take("not")
	x := r.expr(nots)
	r.level--
	return api.Expr{Op: api.Not, Args: []api.Expr{x}}
}

func (r *reader) atom() api.Expr {
	switch {
	case r.now.class == number:
		x := api.Expr{Op: api.Number, N: r.now.n}
		r.next()
		return x
	case r.now.class == name:
		return r.named()
	case r.is("("):
		return r.inner("(", ")")
	case r.is("true"):
		r.take("true")
		return api.Expr{Op: api.Truth, N: 1}
	case r.is("false"):
		r.take("false")
		return api.Expr{Op: api.Truth}
	}
	op := r.operator(atoms)
	if op == 0 {
		r.wrong()
		return api.Expr{}
	}
	r.next()
	x := api.Expr{Op: op}
	if exprFields[op].args == 1 {
		x.Args = []api.Expr{r.inner("(", ")")}
	}
	return x
}

func (r *reader) named() api.Expr {
	x := api.Expr{Op: api.Name, Name: r.name()}
	switch {
	case r.is("["):
		x.Op = api.At
		x.Args = []api.Expr{r.inner("[", "]")}
	case r.is("("):
		x.Op = api.Use
		x.Args = r.args()
	}
	return x
}

// inner reads an expression in brackets.
func (r *reader) inner(opens, closes string) api.Expr {
	r.open(opens)
	x := r.expr(ors)
	r.shut(closes)
	return x
}

func (r *reader) args() []api.Expr {
	r.open("(")
	l := commas(r, func() api.Expr { return r.expr(ors) })
	r.shut(")")
	return l
}
