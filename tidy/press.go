package tidy

import (
	"slices"

	"assize/api"
	"assize/reckon"
)

// A press takes instructions one by one, and leaves out what the last ones make
// needless. What is left out has the next instruction in its place: who jumped
// there comes to that one.
type press struct {
	body []api.Instr
	led  []bool // does a jump lead to that place of body, or to its end?
}

// pressed: a body with less; its jumps lead where the same goes on.
func pressed(body []api.Instr) []api.Instr {
	led := jumpedTo(body)
	p := &press{led: make([]bool, len(body)+1)}
	places := make([]int, len(body))
	for at, i := range body {
		places[at] = len(p.body)
		if led[at] {
			p.led[len(p.body)] = true
		}
		if i.Op != api.Jump || i.A != at+1 {
			p.take(i)
		}
	}
	move(p.body, places)
	return p.body
}

func (p *press) take(i api.Instr) {
	upper := p.last(1)
	switch {
	case i.Op == api.Pop && onlyLeaves(upper):
		p.drop(1)
	case i.Op == api.Flip && upper.Op == api.Push:
		p.drop(1)
		p.push(reckon.Truth(upper.A == 0))
	case i.Op == api.Zero && upper.Op == api.Push:
		p.drop(1)
		if upper.A == 0 {
			p.put(api.Instr{Op: api.Jump, A: i.A})
		}
	default:
		p.takeOperator(i)
	}
}

// takeOperator takes what may be an operator of two numbers that are known. One
// that fails stays, for it must go on failing.
func (p *press) takeOperator(i api.Instr) {
	lower, upper := p.last(2), p.last(1)
	n, may := reckon.Two(i.Op, lower.A, upper.A)
	if !may || lower.Op != api.Push || upper.Op != api.Push {
		p.put(i)
		return
	}
	p.drop(2)
	p.push(n)
}

// last is the instruction so many places ahead of the end; none, if a jump leads in behind it.
func (p *press) last(many int) api.Instr {
	end := len(p.body)
	at := end - many
	if at < 0 || slices.Contains(p.led[at+1:end+1], true) {
		return api.Instr{}
	}
	return p.body[at]
}

func (p *press) put(i api.Instr) { p.body = append(p.body, i) }

func (p *press) push(n int) { p.put(api.Instr{Op: api.Push, A: n}) }

func (p *press) drop(many int) { p.body = p.body[:len(p.body)-many] }

// onlyLeaves: does an instruction nothing but leave a number?
func onlyLeaves(i api.Instr) bool {
	switch i.Op {
	case api.Push, api.Load, api.Me, api.Paid:
		return true
	}
	return false
}
