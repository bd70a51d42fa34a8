package compile_test

import (
	"fmt"
	"math/rand"
	"testing"

	"assize/api"
	"assize/code"
	"assize/compile"
	"assize/kinds"
)

// Here contracts are drawn that may be: each thing of the kind that is wanted where it stands.

type artist struct {
	*rand.Rand
	contract api.Contract
	locals   []api.Param
	answer   int
	lets     int
}

func (r *artist) kind() int { return api.Num + r.Intn(3) }

func (r *artist) contracts() api.Contract {
	r.contract = api.Contract{Name: "c"}
	c := &r.contract
	for i := range r.Intn(4) {
		c.Slots = append(c.Slots, api.Param{Name: fmt.Sprint("s", i), Type: r.kind()})
	}
	for i := range r.Intn(4) {
		c.Tables = append(c.Tables, api.Table{Name: fmt.Sprint("m", i), From: r.kind(), To: r.kind()})
	}
	for i := range r.Intn(5) {
		f := api.Fn{Name: fmt.Sprint("f", i), Open: r.Intn(2) == 0, Type: r.kind()}
		for j := range r.Intn(4) {
			f.Params = append(f.Params, api.Param{Name: fmt.Sprint("p", j), Type: r.kind()})
		}
		c.Fns = append(c.Fns, f)
	}
	for i := range c.Fns {
		f := &c.Fns[i]
		r.locals, r.answer, r.lets = append([]api.Param(nil), f.Params...), f.Type, 0
		f.Body = r.block(3, true)
	}
	return *c
}

// block: steps; one that is to end ends.
func (r *artist) block(deep int, end bool) []api.Stmt {
	visible := len(r.locals)
	var l []api.Stmt
	for range r.Intn(3) {
		l = append(l, r.step(deep))
	}
	if end {
		l = append(l, r.last(deep))
	}
	r.locals = r.locals[:visible]
	return l
}

func (r *artist) last(deep int) api.Stmt {
	if deep > 0 && r.Intn(3) == 0 {
		return api.Stmt{Kind: api.If, Exprs: r.exprs(api.Flag), Body: r.block(deep-1, true), Else: r.block(deep-1, true)}
	}
	return api.Stmt{Kind: api.Give, Exprs: r.exprs(r.answer)}
}

func (r *artist) exprs(kinds ...int) []api.Expr {
	var l []api.Expr
	for _, k := range kinds {
		l = append(l, r.expr(k, 2))
	}
	return l
}

func (r *artist) step(deep int) api.Stmt {
	switch k := api.Let + r.Intn(api.Ask); k {
	case api.Let:
		s := api.Stmt{Kind: k, Name: fmt.Sprint("l", r.lets), Type: r.kind()}
		r.lets++
		s.Exprs = r.exprs(s.Type)
		r.locals = append(r.locals, api.Param{Name: s.Name, Type: s.Type})
		return s
	case api.Set:
		l := append(append([]api.Param(nil), r.locals...), r.contract.Slots...)
		if len(l) > 0 {
			v := l[r.Intn(len(l))]
			return api.Stmt{Kind: k, Name: v.Name, Exprs: r.exprs(v.Type)}
		}
	case api.Put:
		if n := len(r.contract.Tables); n > 0 {
			m := r.contract.Tables[r.Intn(n)]
			return api.Stmt{Kind: k, Name: m.Name, Exprs: r.exprs(m.From, m.To)}
		}
	case api.If:
		if deep > 0 {
			s := api.Stmt{Kind: k, Exprs: r.exprs(api.Flag), Body: r.block(deep-1, r.Intn(3) == 0)}
			s.Else = r.block(deep-1, !ends(s.Body) && r.Intn(3) == 0)
			return s
		}
	case api.While:
		if deep > 0 {
			return api.Stmt{Kind: k, Exprs: r.exprs(api.Flag), Body: r.block(deep-1, r.Intn(3) == 0)}
		}
	case api.PayOut:
		return api.Stmt{Kind: k, Exprs: r.exprs(api.Who, api.Num)}
	case api.Ask:
		return r.ask()
	}
	if r.Intn(2) == 0 {
		return api.Stmt{Kind: api.Need, Exprs: r.exprs(api.Flag)}
	}
	return api.Stmt{Kind: api.Tell, Exprs: r.exprs(api.Num)}
}

func (r *artist) ask() api.Stmt {
	a, b := r.named(api.Flag), r.named(api.Num)
	if a == "" || b == "" {
		return api.Stmt{Kind: api.Need, Exprs: r.exprs(api.Flag)}
	}
	s := api.Stmt{Kind: api.Ask, Name: a, Also: b, Call: fmt.Sprint("g", r.Intn(4)), Exprs: r.exprs(api.Who, api.Num, api.Num)}
	for range r.Intn(4) {
		s.Exprs = append(s.Exprs, r.expr(r.kind(), 1))
	}
	return s
}

// named: a local of a kind, or none.
func (r *artist) named(kind int) string {
	for _, i := range r.Perm(len(r.locals)) {
		if r.locals[i].Type == kind {
			return r.locals[i].Name
		}
	}
	return ""
}

func (r *artist) expr(kind, deep int) api.Expr {
	if x, ok := r.variable(kind, deep); ok && r.Intn(2) == 0 {
		return x
	}
	if deep == 0 {
		return r.atom(kind)
	}
	two := func(op, kind int) api.Expr {
		return api.Expr{Op: op, Args: []api.Expr{r.expr(kind, deep-1), r.expr(kind, deep-1)}}
	}
	one := func(op, kind int) api.Expr { return api.Expr{Op: op, Args: []api.Expr{r.expr(kind, deep-1)}} }
	n := r.Intn(6)
	switch {
	case n == 0:
		return r.atom(kind)
	case kind == api.Num && n < 3:
		return one([]int{api.Balance, api.AsNum}[r.Intn(2)], api.Who)
	case kind == api.Num:
		return two(api.Add+r.Intn(5), api.Num)
	case kind == api.Who:
		return one(api.AsWho, api.Num)
	case n == 1:
		return one(api.Not, api.Flag)
	case n == 2:
		return two(api.Eq+r.Intn(2), r.kind())
	case n == 3:
		return two(api.Lt+r.Intn(4), api.Num)
	}
	return two([]int{api.Or, api.And}[r.Intn(2)], api.Flag)
}

func (r *artist) atom(kind int) api.Expr {
	switch kind {
	case api.Num:
		return []api.Expr{{Op: api.Number, N: r.Intn(100)}, {Op: api.Value}, {Op: api.Height}}[r.Intn(3)]
	case api.Flag:
		return api.Expr{Op: api.Truth, N: r.Intn(2)}
	}
	return api.Expr{Op: []int{api.Self, api.Caller}[r.Intn(2)]}
}

// variable: a local, a slot, a place of a map or a function's answer, of a kind.
func (r *artist) variable(kind, deep int) (api.Expr, bool) {
	var l []api.Expr
	for _, p := range append(append([]api.Param(nil), r.locals...), r.contract.Slots...) {
		if p.Type == kind {
			l = append(l, api.Expr{Op: api.Name, Name: p.Name})
		}
	}
	for _, m := range r.contract.Tables {
		if m.To == kind && deep > 0 {
			l = append(l, api.Expr{Op: api.At, Name: m.Name, Args: []api.Expr{r.expr(m.From, deep-1)}})
		}
	}
	for _, f := range r.contract.Fns {
		if f.Type == kind && deep > 0 {
			x := api.Expr{Op: api.Use, Name: f.Name}
			for _, p := range f.Params {
				x.Args = append(x.Args, r.expr(p.Type, deep-1))
			}
			l = append(l, x)
		}
	}
	if len(l) == 0 {
		return api.Expr{}, false
	}
	return l[r.Intn(len(l))], true
}

// C3, C4: the code of contracts that are drawn is that of the oracle.
func TestDrawn(t *testing.T) {
	r := &artist{Rand: rand.New(rand.NewSource(5))}
	counts := map[api.Errno]int{}
	longest := 0
	for range 4000 {
		c := r.contracts()
		says := kinds.Check(c)
		if says != api.OK && says != api.ErrLimit {
			t.Fatalf("drawn to be right, and is not: %d: %+v", says, c)
		}
		before := fmt.Sprintf("%+v", c)
		got, e := compile.Compile(c)
		counts[e]++
		if e != says {
			t.Fatalf("C3: %+v: %d, not %d", c, e, says)
		}
		if fmt.Sprintf("%+v", c) != before {
			t.Fatalf("P2: Compile changes %s", before)
		}
		want := oracle(c)
		if e != api.OK {
			want = api.Code{}
		}
		if fmt.Sprintf("%+v", got) != fmt.Sprintf("%+v", want) {
			t.Fatalf("C4: %+v:\n%+v, not\n%+v", c, got, want)
		}
		if e := code.Check(got); e != api.OK {
			t.Fatalf("C3: %+v: code that may not run: %d", c, e)
		}
		for _, p := range got.Pieces {
			longest = max(longest, len(p.Body))
		}
	}
	if counts[api.OK] < 1000 || longest < 100 {
		t.Errorf("drawn too seldom: %v, the longest body has %d", counts, longest)
	}
}
