package mean

import (
	"slices"

	"assize/api"
)

// A run is a contract that is under way. Its contract may be: each name in it
// is that of something, and of what may stand there.
type run struct {
	ground   *ground
	contract api.Contract
	job      api.Job
	asks     int // contracts that are under way, one within the other, this one too
	left     int // of the gas
	uses     int // functions that are under way
	notes    []api.Note
	locals   map[string]int // of the function that was used last
}

// ending is what a run panics with where a contract ends ahead of its answer: Failed or Out.
type ending int

func (r *run) must(may bool) {
	if !may {
		panic(ending(api.Failed))
	}
}

// have: without so much gas the contract is out, and then it has used all that was left.
func (r *run) have(gas int) {
	if r.left < gas {
		r.left = 0
		panic(ending(api.Out))
	}
}

func (r *run) pay(gas int) {
	r.have(gas)
	r.left -= gas
}

// outcome is that of the contract, whose function f is used first.
func (r *run) outcome(f api.Fn) api.Outcome {
	value, kind := r.answer(f)
	o := api.Outcome{Kind: kind, Value: value, Used: r.job.Gas - r.left}
	if kind == api.Done {
		o.Notes = r.notes
	}
	return o
}

// answer is that of f, and how the contract ended. A panic that is no ending
// is a fault of the program: it is not hidden as an answer.
func (r *run) answer(f api.Fn) (value, kind int) {
	defer func() {
		cause := recover()
		if cause == nil {
			return
		}
		e, ok := cause.(ending)
		if !ok {
			panic(cause)
		}
		value, kind = 0, int(e)
	}()
	return r.use(f, r.job.Args), api.Done
}

// use is the answer of a function.
func (r *run) use(f api.Fn, args []int) int {
	r.must(r.uses < api.MaxFrames)
	outer := r.locals
	r.locals = map[string]int{}
	for i, p := range f.Params {
		r.locals[p.Name] = args[i]
	}
	r.uses++
	value, _ := r.block(f.Body)
	r.uses--
	r.locals = outer
	return value
}

func (r *run) note(l ...api.Note) {
	r.notes = append(r.notes, l...)
	r.must(len(r.notes) <= api.MaxNotes)
}

// slot is the variable of a name; maps are numbered behind the slots.
func (r *run) slot(name string) int {
	return slices.IndexFunc(r.contract.Slots, func(p api.Param) bool { return p.Name == name })
}

func (r *run) table(name string) int {
	n := slices.IndexFunc(r.contract.Tables, func(t api.Table) bool { return t.Name == name })
	return len(r.contract.Slots) + n
}

func (r *run) function(name string) api.Fn {
	n := slices.IndexFunc(r.contract.Fns, func(f api.Fn) bool { return f.Name == name })
	return r.contract.Fns[n]
}
