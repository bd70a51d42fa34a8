package mean

import (
	"assize/api"
)

func truth(is bool) int {
	if is {
		return 1
	}
	return 0
}

// exprs is what expressions are worth, worked out from the left.
func (r *run) exprs(l []api.Expr) []int {
	values := make([]int, 0, len(l))
	for _, x := range l {
		values = append(values, r.expr(x))
	}
	return values
}

// expr is what an expression is worth. A flag that came from outside may be any number: it is true unless it is 0.
func (r *run) expr(x api.Expr) int {
	switch x.Op {
	case api.Or:
		return r.or(x)
	case api.And:
		return r.and(x)
	case api.Name:
		return r.variable(x.Name)
	}
	l := r.exprs(x.Args)
	r.pay(gasOf(x.Op))
	switch x.Op {
	case api.Number, api.Truth:
		return x.N
	case api.At:
		return r.ground.state.Word(r.job.To, r.table(x.Name), l[0])
	case api.Use:
		return r.use(r.function(x.Name), l)
	case api.Not:
		return truth(l[0] == 0)
	case api.Self:
		return r.job.To
	case api.Caller:
		return r.job.From
	case api.Value:
		return r.job.Value
	case api.Height:
		return r.job.Height
	case api.Balance:
		return r.ground.state.Account(l[0]).Balance
	case api.AsWho, api.AsNum:
		return l[0]
	}
	return r.pair(x.Op, l[0], l[1])
}

// gasOf is what is paid behind the parts of an expression, where its operator alone says it.
func gasOf(op int) int {
	switch op {
	case api.AsWho, api.AsNum:
		return 0
	case api.Use, api.Ne, api.Le, api.Ge:
		return 2
	case api.At, api.Balance:
		return 4
	}
	return 1
}

func (r *run) variable(name string) int {
	if n, is := r.locals[name]; is {
		r.pay(1)
		return n
	}
	r.pay(4)
	return r.ground.state.Word(r.job.To, r.slot(name), 0)
}

func (r *run) or(x api.Expr) int {
	if r.holds(x.Args[0]) {
		r.pay(2)
		return 1
	}
	return r.expr(x.Args[1])
}

func (r *run) and(x api.Expr) int {
	if !r.holds(x.Args[0]) {
		r.pay(1)
		return 0
	}
	n := r.expr(x.Args[1])
	r.pay(1)
	return n
}

// pair is what an operator of two makes of both sides.
func (r *run) pair(op, x, y int) int {
	switch op {
	case api.Eq:
		return truth(x == y)
	case api.Ne:
		return truth(x != y)
	case api.Lt:
		return truth(x < y)
	case api.Le:
		return truth(x <= y)
	case api.Gt:
		return truth(x > y)
	case api.Ge:
		return truth(x >= y)
	case api.Add:
		r.must(x+y <= api.MaxNumber)
		return x + y
	case api.Sub:
		r.must(x >= y)
		return x - y
	case api.Mul:
		// The product itself may be too great for an int.
		r.must(x == 0 || y <= api.MaxNumber/x)
		return x * y
	}
	r.must(y != 0)
	if op == api.Div {
		return x / y
	}
	return x % y
}
