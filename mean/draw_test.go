package mean_test

import (
	"fmt"
	"math/rand"
	"testing"

	"assize/api"
	"assize/compile"
	"assize/script"
	"assize/state"
	"assize/trie"
)

// Here contracts are drawn that may be, and that have something to ask each other.

type artist struct {
	*rand.Rand
	contract api.Contract
	locals   []api.Param
	answer   int
	lets     int
}

func (r *artist) kind() int { return []int{api.Num, api.Num, api.Flag, api.Who}[r.Intn(4)] }

// contracts: one with functions f0, f1, f2, of which most are open, with 0, 1, 2 parameters, the first of them a num.
func (r *artist) contracts() api.Contract {
	r.contract = api.Contract{Name: "c"}
	c := &r.contract
	for i := range 1 + r.Intn(3) {
		c.Slots = append(c.Slots, api.Param{Name: fmt.Sprint("s", i), Type: r.kind()})
	}
	for i := range 1 + r.Intn(2) {
		c.Tables = append(c.Tables, api.Table{Name: fmt.Sprint("m", i), From: r.kind(), To: r.kind()})
	}
	for i := range 3 {
		f := api.Fn{Name: fmt.Sprint("f", i), Open: r.Intn(9) > 0, Type: r.kind()}
		for j := range i {
			f.Params = append(f.Params, api.Param{Name: fmt.Sprint("p", j), Type: []int{api.Num, r.kind()}[j]})
		}
		c.Fns = append(c.Fns, f)
	}
	for i := range c.Fns {
		f := &c.Fns[i]
		r.locals, r.answer, r.lets = append([]api.Param(nil), f.Params...), f.Type, 0
		f.Body = append(r.opening(), r.block(2, true)...)
	}
	return *c
}

// opening: locals that an ask may lean on, and a note that tells that it was met.
func (r *artist) opening() []api.Stmt {
	r.locals = append(r.locals, api.Param{Name: "ok", Type: api.Flag}, api.Param{Name: "got", Type: api.Num})
	return []api.Stmt{
		{Kind: api.Let, Name: "ok", Type: api.Flag, Exprs: []api.Expr{{Op: api.Truth, N: r.Intn(2)}}},
		{Kind: api.Let, Name: "got", Type: api.Num, Exprs: []api.Expr{{Op: api.Number, N: r.Intn(5)}}},
		{Kind: api.Tell, Exprs: []api.Expr{{Op: api.Number, N: 100 + r.Intn(100)}}},
	}
}

func (r *artist) block(deep int, end bool) []api.Stmt {
	visible := len(r.locals)
	var l []api.Stmt
	for range r.Intn(4) {
		l = append(l, r.step(deep))
	}
	if end {
		l = append(l, r.last(deep))
	}
	r.locals = r.locals[:visible]
	return l
}

func (r *artist) last(deep int) api.Stmt {
	if deep > 0 && r.Intn(3) == 0 {
		return api.Stmt{Kind: api.If, Exprs: r.exprs(api.Flag), Body: r.block(deep-1, true), Else: r.block(deep-1, true)}
	}
	return api.Stmt{Kind: api.Give, Exprs: r.exprs(r.answer)}
}

func (r *artist) exprs(kinds ...int) []api.Expr {
	var l []api.Expr
	for _, k := range kinds {
		l = append(l, r.expr(k, 2))
	}
	return l
}

func (r *artist) step(deep int) api.Stmt {
	k := min(api.Let+r.Intn(api.Ask+2), api.Ask)
	switch k {
	case api.Let:
		s := api.Stmt{Kind: k, Name: fmt.Sprint("l", r.lets), Type: r.kind()}
		r.lets++
		s.Exprs = r.exprs(s.Type)
		r.locals = append(r.locals, api.Param{Name: s.Name, Type: s.Type})
		return s
	case api.Put:
		m := r.contract.Tables[r.Intn(len(r.contract.Tables))]
		return api.Stmt{Kind: k, Name: m.Name, Exprs: r.exprs(m.From, m.To)}
	case api.If:
		if deep > 0 {
			body := r.block(deep-1, r.Intn(4) == 0)
			ends := len(body) > 0 && (body[len(body)-1].Kind == api.Give || body[len(body)-1].Kind == api.If)
			return api.Stmt{Kind: k, Exprs: r.exprs(api.Flag), Body: body, Else: r.block(deep-1, !ends && r.Intn(4) == 0)}
		}
	case api.While:
		if deep > 0 {
			return r.loop(deep)
		}
	case api.Need:
		// One that seldom fails.
		return api.Stmt{Kind: k, Exprs: []api.Expr{{Op: api.Or, Args: []api.Expr{r.expr(api.Flag, 1), r.expr(api.Flag, 1)}}}}
	case api.PayOut:
		return api.Stmt{Kind: k, Exprs: []api.Expr{r.expr(api.Who, 1), {Op: api.Number, N: r.Intn(6)}}}
	case api.Tell:
		return api.Stmt{Kind: k, Exprs: r.exprs(api.Num)}
	case api.Ask:
		return r.ask()
	}
	l := append(append([]api.Param(nil), r.locals...), r.contract.Slots...)
	v := l[r.Intn(len(l))]
	return api.Stmt{Kind: api.Set, Name: v.Name, Exprs: r.exprs(v.Type)}
}

// loop: most of them end: they count what was got up.
func (r *artist) loop(deep int) api.Stmt {
	if r.Intn(5) == 0 {
		return api.Stmt{Kind: api.While, Exprs: r.exprs(api.Flag), Body: r.block(deep-1, r.Intn(3) == 0)}
	}
	got := api.Expr{Op: api.Name, Name: "got"}
	up := api.Stmt{Kind: api.Set, Name: "got", Exprs: []api.Expr{{Op: api.Add, Args: []api.Expr{got, {Op: api.Number, N: 1}}}}}
	return api.Stmt{Kind: api.While, Exprs: []api.Expr{{Op: api.Lt, Args: []api.Expr{got, {Op: api.Number, N: 3 + r.Intn(5)}}}}, Body: append(r.block(deep-1, false), up)}
}

func (r *artist) ask() api.Stmt {
	number := func(l ...int) api.Expr { return api.Expr{Op: api.Number, N: l[r.Intn(len(l))]} }
	n := r.Intn(7) / 2
	whom := api.Expr{Op: api.AsWho, Args: []api.Expr{number(me, other, other, other+1, nobody)}}
	if r.Intn(6) == 0 {
		whom = r.expr(api.Who, 1)
	}
	s := api.Stmt{Kind: api.Ask, Name: "ok", Also: "got", Call: fmt.Sprint("f", n), Exprs: []api.Expr{whom, number(0, 0, 1, 3), number(0, 50, 300, 300, 600)}}
	for range n % 3 {
		s.Exprs = append(s.Exprs, r.expr(r.kind(), 1))
	}
	return s
}

func (r *artist) expr(kind, deep int) api.Expr {
	if x, ok := r.variable(kind, deep); ok && r.Intn(2) == 0 {
		return x
	}
	if deep == 0 {
		return r.atom(kind)
	}
	two := func(op, kind int) api.Expr {
		return api.Expr{Op: op, Args: []api.Expr{r.expr(kind, deep-1), r.expr(kind, deep-1)}}
	}
	one := func(op, kind int) api.Expr { return api.Expr{Op: op, Args: []api.Expr{r.expr(kind, deep-1)}} }
	n := r.Intn(7)
	switch {
	case n == 0:
		return r.atom(kind)
	case kind == api.Num && n < 3:
		return one([]int{api.Balance, api.AsNum}[r.Intn(2)], api.Who)
	case kind == api.Num:
		return two([]int{api.Add, api.Add, api.Add, api.Add, api.Sub, api.Mul, api.Div, api.Mod}[r.Intn(8)], api.Num)
	case kind == api.Who:
		return one(api.AsWho, api.Num)
	case n == 1:
		return one(api.Not, api.Flag)
	case n == 2:
		return two(api.Eq+r.Intn(2), r.kind())
	case n == 3:
		return two(api.Lt+r.Intn(4), api.Num)
	}
	return two([]int{api.Or, api.And}[r.Intn(2)], api.Flag)
}

func (r *artist) atom(kind int) api.Expr {
	switch kind {
	case api.Num:
		return []api.Expr{{Op: api.Number, N: 1 + r.Intn(9)}, {Op: api.Number, N: []int{0, giver, 10, api.MaxNumber}[r.Intn(4)]}, {Op: api.Value}, {Op: api.Height}}[r.Intn(4)]
	case api.Flag:
		return api.Expr{Op: api.Truth, N: r.Intn(2)}
	}
	return api.Expr{Op: []int{api.Self, api.Caller}[r.Intn(2)]}
}

// variable: a local, a slot, a place of a map or a function's answer, of a kind.
func (r *artist) variable(kind, deep int) (api.Expr, bool) {
	var l []api.Expr
	for _, p := range append(append([]api.Param(nil), r.locals...), r.contract.Slots...) {
		if p.Type == kind {
			l = append(l, api.Expr{Op: api.Name, Name: p.Name})
		}
	}
	for _, m := range r.contract.Tables {
		if m.To == kind && deep > 0 {
			l = append(l, api.Expr{Op: api.At, Name: m.Name, Args: []api.Expr{r.expr(m.From, deep-1)}})
		}
	}
	for _, f := range r.contract.Fns {
		if f.Type == kind && deep > 0 && r.Intn(3) == 0 {
			x := api.Expr{Op: api.Use, Name: f.Name}
			for _, p := range f.Params {
				x.Args = append(x.Args, r.expr(p.Type, deep-1))
			}
			l = append(l, x)
		}
	}
	if len(l) == 0 {
		return api.Expr{}, false
	}
	return l[r.Intn(len(l))], true
}

// text: of a contract that can be compiled.
func (r *artist) text(t *testing.T) string {
	for {
		c := r.contracts()
		_, e := compile.Compile(c)
		if e == api.OK {
			s, _ := script.Print(c)
			return s
		}
		if e != api.ErrLimit {
			t.Fatalf("drawn to be right, and is not: %d: %+v", e, c)
		}
	}
}

// N4: contracts that are drawn do the same by their text as by their code, call by call, with much gas and with little.
func TestDrawn(t *testing.T) {
	r := &artist{Rand: rand.New(rand.NewSource(3))}
	kinds, notes := map[int]int{}, map[int]int{}
	gas := 0
	for range 800 {
		texts := []string{r.text(t), r.text(t), r.text(t)}
		tree := begun(texts...)
		own, _ := state.Money(tree)
		for range 6 {
			n := r.Intn(10) / 3
			j := api.Job{From: []int{giver, other}[r.Intn(2)], To: me, Text: fmt.Sprint("f", n), Value: r.Intn(2) * r.Intn(9), Height: r.Intn(5)}
			for range n % 3 {
				j.Args = append(j.Args, []int{0, 1, 2, 5, giver, other}[r.Intn(6)])
			}
			var after trie.Tree
			for _, j.Gas = range []int{r.Intn(60), r.Intn(400), 4000} {
				var o api.Outcome
				o, after = called(t, tree, j)
				kinds[o.Kind]++
				gas += o.Used
				for _, n := range o.Notes {
					notes[n.Who]++
				}
			}
			tree = after
			if t.Failed() {
				t.Fatalf("N4: the contracts are %q", texts)
			}
		}
		if now, _ := state.Money(tree); now != own {
			t.Fatalf("N2: money is not kept: %d, not %d: %q", now, own, texts)
		}
	}
	if kinds[api.Done] < 4000 || kinds[api.Failed] < 3000 || kinds[api.Out] < 3000 || gas < 1000000 || notes[me] < 1000 || notes[other] < 100 || notes[other+1] < 50 {
		t.Errorf("drawn too seldom: %v, %d gas, notes of %v", kinds, gas, notes)
	}
}
