package mean

import (
	"assize/api"
)

// block does the steps of a block, until one of them answers; false: none did.
func (r *run) block(l []api.Stmt) (answer int, is bool) {
	for _, s := range l {
		if answer, is = r.step(s); is {
			return answer, true
		}
	}
	return 0, false
}

// step does a step, and tells the answer, if it gives one.
func (r *run) step(s api.Stmt) (answer int, is bool) {
	switch s.Kind {
	case api.If:
		return r.choose(s)
	case api.While:
		return r.loop(s)
	case api.Ask:
		r.ask(s)
		return 0, false
	}
	l := r.exprs(s.Exprs)
	switch s.Kind {
	case api.Let:
		r.pay(1)
		r.locals[s.Name] = l[0]
	case api.Set:
		r.set(s.Name, l[0])
	case api.Put:
		r.pay(8)
		r.ground.state.SetWord(r.job.To, r.table(s.Name), l[0], l[1])
	case api.Give:
		r.pay(1)
		return l[0], true
	case api.Need:
		r.pay(1)
		r.must(l[0] != 0)
	case api.PayOut:
		r.pay(16)
		r.must(r.ground.state.Move(r.job.To, l[0], l[1]) == api.OK)
	case api.Tell:
		r.pay(4)
		r.note(api.Note{Who: r.job.To, N: l[0]})
	}
	return 0, false
}

// set gives a local or a slot something. No two things have one name, but
// locals of which one is not visible any more where the other one is.
func (r *run) set(name string, n int) {
	if _, is := r.locals[name]; is {
		r.pay(1)
		r.locals[name] = n
		return
	}
	r.pay(8)
	r.ground.state.SetWord(r.job.To, r.slot(name), 0, n)
}

func (r *run) choose(s api.Stmt) (answer int, is bool) {
	if !r.holds(s.Exprs[0]) {
		return r.block(s.Else)
	}
	answer, is = r.block(s.Body)
	// Behind a block that ends nobody comes by here.
	if !is && len(s.Else) > 0 {
		r.pay(1)
	}
	return answer, is
}

func (r *run) loop(s api.Stmt) (answer int, is bool) {
	for r.holds(s.Exprs[0]) {
		if answer, is = r.block(s.Body); is {
			return answer, true
		}
		r.pay(1)
	}
	return 0, false
}

// holds pays for a condition and for looking at it.
func (r *run) holds(x api.Expr) bool {
	n := r.expr(x)
	r.pay(1)
	return n != 0
}

// ask asks another contract.
func (r *run) ask(s api.Stmt) {
	to := r.expr(s.Exprs[0])
	args := r.exprs(s.Exprs[3:])
	value, gas := r.expr(s.Exprs[1]), r.expr(s.Exprs[2])
	r.pay(16)
	r.have(gas)
	o := api.Outcome{Kind: api.Failed}
	if r.asks < api.MaxAsks {
		o = r.ground.call(api.Job{From: r.job.To, To: to, Text: s.Call, Args: args, Value: value, Gas: gas, Height: r.job.Height}, r.asks+1)
	}
	r.pay(o.Used)
	r.note(o.Notes...)
	r.pay(1)
	r.locals[s.Name] = truth(o.Kind == api.Done)
	r.pay(1)
	r.locals[s.Also] = o.Value
}
