package machine

import (
	"slices"

	"assize/api"
	"assize/code"
)

// A contract that is under way.
type contract struct {
	ground *ground
	code   api.Code
	job    api.Job
	asks   int // contracts that are under way, one within the other, this one too
	left   int // of the gas
	frames []*frame
	notes  []api.Note
	end    int // how it ended; 0: it goes on
	value  int
}

// A frame is a piece that is under way.
type frame struct {
	body   []api.Instr
	next   int
	locals []int
	stack  []int
}

func (f *frame) push(l ...int) { f.stack = append(f.stack, l...) }

func (f *frame) pop() int {
	top := len(f.stack) - 1
	n := f.stack[top]
	f.stack = f.stack[:top]
	return n
}

// pops takes so many numbers, and tells them from below.
func (f *frame) pops(many int) []int {
	rest := len(f.stack) - many
	l := slices.Clone(f.stack[rest:])
	f.stack = f.stack[:rest]
	return l
}

// run enters the piece that a job asks for, and goes on until the contract ends.
func (g *ground) run(x api.Code, j api.Job, asks int) api.Outcome {
	first := slices.IndexFunc(x.Pieces, func(p api.Piece) bool {
		return p.Open && p.Name == j.Text && p.Params == len(j.Args)
	})
	if first < 0 {
		return api.Outcome{Kind: api.Failed}
	}
	c := &contract{ground: g, code: x, job: j, asks: asks, left: j.Gas}
	c.enter(first, j.Args)
	for c.end == 0 {
		c.step()
	}
	return c.outcome()
}

// outcome: what was not done has told nothing.
func (c *contract) outcome() api.Outcome {
	o := api.Outcome{Kind: c.end, Used: c.job.Gas - c.left}
	if c.end == api.Done {
		o.Value, o.Notes = c.value, c.notes
	}
	return o
}

func (c *contract) fail() { c.end = api.Failed }

// out: whoever is out has used all gas, be some left or not.
func (c *contract) out() {
	c.end = api.Out
	c.left = 0
}

func (c *contract) must(may bool) {
	if !may {
		c.fail()
	}
}

// enter begins a piece: its locals are the arguments, then noughts.
func (c *contract) enter(piece int, args []int) {
	if len(c.frames) == api.MaxFrames {
		c.fail()
		return
	}
	p := c.code.Pieces[piece]
	f := &frame{body: p.Body, locals: make([]int, p.Locals)}
	copy(f.locals, args)
	c.frames = append(c.frames, f)
}

// back gives a piece's answer to the one that entered it.
func (c *contract) back(answer int) {
	c.frames = c.frames[:len(c.frames)-1]
	if len(c.frames) == 0 {
		c.value = answer
		c.end = api.Done
		return
	}
	c.top().push(answer)
}

// top is the piece that was entered last.
func (c *contract) top() *frame { return c.frames[len(c.frames)-1] }

// step does one instruction. Code that may run has, at each of them, all that it takes.
func (c *contract) step() {
	f := c.top()
	i := f.body[f.next]
	f.next++
	cost := code.Cost(i.Op)
	if c.left < cost {
		c.out()
		return
	}
	c.left -= cost
	c.do(f, i)
}
