package kinds

import (
	"assize/api"
)

func (k *checker) fn(f api.Fn) {
	visible := len(k.things)
	for _, p := range f.Params {
		k.declare(thing{name: p.Name, what: locals, kind: p.Type})
	}
	k.answer = f.Type
	if !k.block(f.Body) {
		k.fail(api.ErrEnd)
	}
	k.things = k.things[:visible]
}

// block goes through the steps of a block, and tells whether it ends.
func (k *checker) block(l []api.Stmt) bool {
	visible := len(k.things)
	ends := false
	for _, s := range l {
		if ends {
			k.fail(api.ErrEnd)
		}
		ends = k.step(s)
	}
	k.things = k.things[:visible]
	return ends
}

// step tells whether a block ends with it.
func (k *checker) step(s api.Stmt) bool {
	switch s.Kind {
	case api.Let:
		k.want(s.Exprs[0], s.Type)
		k.declare(thing{name: s.Name, what: locals, kind: s.Type})
	case api.Set:
		kind := k.variable(s.Name)
		k.want(s.Exprs[0], kind)
	case api.Put:
		t := k.table(s.Name)
		k.want(s.Exprs[0], t.From)
		k.want(s.Exprs[1], t.To)
	case api.If:
		k.want(s.Exprs[0], api.Flag)
		first := k.block(s.Body)
		other := k.block(s.Else)
		return first && other
	case api.While:
		k.want(s.Exprs[0], api.Flag)
		k.block(s.Body)
	case api.Give:
		k.want(s.Exprs[0], k.answer)
		return true
	case api.Need:
		k.want(s.Exprs[0], api.Flag)
	case api.PayOut:
		k.want(s.Exprs[0], api.Who)
		k.want(s.Exprs[1], api.Num)
	case api.Tell:
		k.want(s.Exprs[0], api.Num)
	case api.Ask:
		k.ask(s)
	}
	return false
}

func (k *checker) ask(s api.Stmt) {
	k.asked(s.Name, api.Flag)
	k.asked(s.Also, api.Num)
	k.want(s.Exprs[0], api.Who)
	k.want(s.Exprs[1], api.Num)
	k.want(s.Exprs[2], api.Num)
	for _, x := range s.Exprs[3:] {
		k.expr(x)
	}
}

func (k *checker) want(x api.Expr, kind int) {
	if k.expr(x) != kind {
		k.fail(api.ErrKind)
	}
}

// expr is the kind of an expression; behind a fault it may be none.
func (k *checker) expr(x api.Expr) int {
	switch x.Op {
	case api.Number, api.Value, api.Height:
		return api.Num
	case api.Truth:
		return api.Flag
	case api.Self, api.Caller:
		return api.Who
	case api.Name:
		return k.variable(x.Name)
	case api.At:
		t := k.table(x.Name)
		k.want(x.Args[0], t.From)
		return t.To
	case api.Use:
		return k.use(x)
	case api.Not:
		k.want(x.Args[0], api.Flag)
		return api.Flag
	case api.Balance, api.AsNum:
		k.want(x.Args[0], api.Who)
		return api.Num
	case api.AsWho:
		k.want(x.Args[0], api.Num)
		return api.Who
	}
	return k.pair(x)
}

func (k *checker) use(x api.Expr) int {
	f := k.function(x.Name)
	if len(x.Args) != len(f.Params) {
		k.fail(api.ErrCount)
		return f.Type
	}
	for i, p := range f.Params {
		k.want(x.Args[i], p.Type)
	}
	return f.Type
}

// pair is the kind of an operator of two: both sides stand ahead of what is wanted of them.
func (k *checker) pair(x api.Expr) int {
	left := k.expr(x.Args[0])
	right := k.expr(x.Args[1])
	wanted, kind := api.Num, api.Num
	switch x.Op {
	case api.Or, api.And:
		wanted, kind = api.Flag, api.Flag
	case api.Eq, api.Ne:
		wanted, kind = left, api.Flag
	case api.Lt, api.Le, api.Gt, api.Ge:
		kind = api.Flag
	}
	if left != wanted || right != wanted {
		k.fail(api.ErrKind)
	}
	return kind
}
