package machine

import (
	"assize/api"
	"assize/reckon"
)

// do does an instruction of a piece that is paid for.
func (c *contract) do(f *frame, i api.Instr) {
	switch i.Op {
	case api.Push:
		f.push(i.A)
	case api.Pop:
		f.pop()
	case api.Load:
		f.push(f.locals[i.A])
	case api.Store:
		f.locals[i.A] = f.pop()
	case api.Flip:
		f.push(reckon.Truth(f.pop() == 0))
	case api.Jump:
		f.next = i.A
	case api.Zero:
		if f.pop() == 0 {
			f.next = i.A
		}
	case api.Must:
		c.must(f.pop() != 0)
	case api.Enter:
		c.enter(i.A, f.pops(c.code.Pieces[i.A].Params))
	case api.Back:
		c.back(f.pop())
	case api.Reach:
		c.reach(f, i)
	case api.Plus, api.Minus, api.Times, api.Over, api.Rest, api.Same, api.Under, api.Above:
		upper, lower := f.pop(), f.pop()
		n, may := reckon.Two(i.Op, lower, upper)
		c.must(may)
		f.push(n)
	default:
		c.deal(f, i)
	}
}

// deal does an instruction that deals with the job, or with the state.
func (c *contract) deal(f *frame, i api.Instr) {
	me, st := c.job.To, c.ground.state
	switch i.Op {
	case api.Read:
		f.push(st.Word(me, i.A, 0))
	case api.Write:
		st.SetWord(me, i.A, 0, f.pop())
	case api.Seek:
		f.push(st.Word(me, i.A, f.pop()))
	case api.Stow:
		n, key := f.pop(), f.pop()
		st.SetWord(me, i.A, key, n)
	case api.Me:
		f.push(me)
	case api.From:
		f.push(c.job.From)
	case api.Paid:
		f.push(c.job.Value)
	case api.High:
		f.push(c.job.Height)
	case api.Purse:
		f.push(st.Account(f.pop()).Balance)
	case api.Hand:
		amount, to := f.pop(), f.pop()
		c.must(st.Move(me, to, amount) == api.OK)
	case api.Say:
		c.note(api.Note{Who: me, N: f.pop()})
	}
}

func (c *contract) note(l ...api.Note) {
	c.notes = append(c.notes, l...)
	c.must(len(c.notes) <= api.MaxNotes)
}

// reach asks another contract.
func (c *contract) reach(f *frame, i api.Instr) {
	gas, value := f.pop(), f.pop()
	args := f.pops(i.A)
	to := f.pop()
	if c.left < gas {
		c.out()
		return
	}
	o := api.Outcome{Kind: api.Failed}
	if c.asks < api.MaxAsks {
		o = c.ground.call(api.Job{From: c.job.To, To: to, Text: c.code.Names[i.B], Args: args, Value: value, Gas: gas, Height: c.job.Height}, c.asks+1)
	}
	c.left -= o.Used
	c.note(o.Notes...)
	f.push(o.Value, reckon.Truth(o.Kind == api.Done))
}
