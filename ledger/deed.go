package ledger

import (
	"assize/api"
	"assize/compile"
	"assize/machine"
	"assize/script"
	"assize/state"
)

// made is the count of the contracts.
const made = "made"

// deed: a transaction that is being done, and what has come of it.
type deed struct {
	state  *state.State
	env    api.Env
	tx     api.Tx
	result api.Result
}

// whole does all of it, or, with an error, nothing.
func (d *deed) whole() {
	mark := d.state.Mark()
	e := d.do()
	if e == api.OK {
		d.state.Keep(mark)
		return
	}
	d.state.Undo(mark)
	d.result = api.Result{Code: e, Used: d.result.Used}
}

func (d *deed) do() api.Errno {
	switch d.tx.Kind {
	case api.Pay:
		return d.state.Move(d.tx.From, d.tx.To, d.tx.Amount)
	case api.Make:
		return d.makeContract()
	case api.Call:
		return d.callContract()
	case api.Bond:
		return d.bond()
	case api.Leave:
		return d.leave()
	case api.Free:
		return d.free()
	case api.Send:
		return d.send()
	case api.Return:
		return d.giveBack()
	case api.Show:
		return d.show()
	case api.Claim:
		return d.claim()
	}
	return api.ErrForm // no transaction of another kind comes so far
}

func (d *deed) makeContract() api.Errno {
	c, e := script.Parse(d.tx.Text)
	if e != api.OK {
		return e
	}
	if _, e := compile.Compile(c); e != api.OK {
		return e
	}
	number := d.state.Count(made) + 1
	who := api.Contracts + number
	if who > api.MaxNumber {
		return api.ErrLimit
	}
	d.state.SetCount(made, number)
	d.state.SetText(who, d.tx.Text)
	d.result.Value = who
	return d.state.Move(d.tx.From, who, d.tx.Amount)
}

func (d *deed) callContract() api.Errno {
	t := d.tx
	o := machine.Call(d.state, api.Job{
		From: t.From, To: t.To, Text: t.Text, Args: t.Args,
		Value: t.Amount, Gas: t.Limit - Base(t), Height: d.env.Height,
	})
	d.result.Used += o.Used
	switch o.Kind {
	case api.Done:
		d.result.Value, d.result.Notes = o.Value, o.Notes
		return api.OK
	case api.Out:
		return api.ErrOut
	}
	return api.ErrFailed
}

func (d *deed) bond() api.Errno {
	if d.state.Account(d.tx.From).Jailed {
		return api.ErrGuilt
	}
	return change(d.state, d.tx.From, func(a *api.Account) {
		a.Balance -= d.tx.Amount
		a.Bond += d.tx.Amount
	})
}

func (d *deed) leave() api.Errno {
	a := d.state.Account(d.tx.From)
	if a.Leaving > 0 {
		return api.ErrBusy
	}
	if d.tx.Amount == 0 || d.tx.Amount > a.Bond {
		return api.ErrFunds
	}
	a.Bond -= d.tx.Amount
	a.Leaving = d.tx.Amount
	a.FreeAt = d.env.Height + 2*d.env.Epoch
	return d.state.SetAccount(d.tx.From, a)
}

func (d *deed) free() api.Errno {
	a := d.state.Account(d.tx.From)
	if a.Leaving == 0 {
		return api.ErrFunds
	}
	if d.env.Height < a.FreeAt {
		return api.ErrBusy
	}
	a.Balance += a.Leaving
	a.Leaving, a.FreeAt = 0, 0
	return d.state.SetAccount(d.tx.From, a)
}
