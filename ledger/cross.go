package ledger

import (
	"assize/api"
	"assize/light"
	"assize/state"
	"assize/trie"
	"assize/wire"
)

// What stands in the state for the sake of the other ledger.
const (
	parcels = "o"   // what the keys of parcels begin with
	view    = "v"   // the key of what is believed of the other ledger
	sent    = "out" // the count of the parcels that left
	claimed = "in"  // the count of those that came
)

// ParcelKey is the key of a parcel.
func ParcelKey(n int) string { return parcels + wire.Five(n) }

func (d *deed) send() api.Errno {
	if e := d.state.Move(d.tx.From, api.Gate, d.tx.Amount); e != api.OK {
		return e
	}
	return d.parcel(api.Ours)
}

// giveBack does a Return.
func (d *deed) giveBack() api.Errno {
	if d.state.Account(d.tx.From).Foreign < d.tx.Amount {
		return api.ErrFunds
	}
	change(d.state, d.tx.From, func(a *api.Account) { a.Foreign -= d.tx.Amount })
	return d.parcel(api.Theirs)
}

// parcel puts down what leaves, with its number.
func (d *deed) parcel(kind int) api.Errno {
	n := d.state.Count(sent)
	written, e := wire.PutParcel(api.Parcel{Kind: kind, To: d.tx.To, Amount: d.tx.Amount})
	if e != api.OK {
		return e
	}
	d.state.Set(ParcelKey(n), written)
	d.result.Value = n
	return d.state.SetCount(sent, n+1)
}

// believed is what is believed of the other ledger; ErrStart, if nothing is.
func believed(st *state.State) (api.View, api.Errno) {
	v, e := wire.GetView(st.Get(view))
	if e != api.OK {
		return api.View{}, api.ErrStart
	}
	return v, api.OK
}

func (d *deed) show() api.Errno {
	v, e := believed(d.state)
	if e != api.OK {
		return e
	}
	v, e = light.Accept(v, d.tx.Sights[0])
	if e != api.OK {
		return e
	}
	written, e := wire.PutView(v)
	if e != api.OK {
		return e
	}
	return d.state.Set(view, written)
}

func (d *deed) claim() api.Errno {
	v, e := believed(d.state)
	if e != api.OK {
		return e
	}
	n := d.state.Count(claimed)
	p, e := proved(v, n, d.tx.Proofs[0])
	if e != api.OK {
		return e
	}
	if e := d.state.SetCount(claimed, n+1); e != api.OK {
		return e
	}
	d.result.Value = n
	if p.Kind == api.Theirs {
		return d.state.Move(api.Gate, p.To, p.Amount)
	}
	return change(d.state, p.To, func(a *api.Account) { a.Foreign += p.Amount })
}

// proved is the parcel of that number, as a proof shows it to one who believes v.
func proved(v api.View, n int, proof api.Proof) (api.Parcel, api.Errno) {
	written, e := trie.Check(v.Width, v.State, ParcelKey(n), proof)
	if e != api.OK {
		return api.Parcel{}, e
	}
	if written == "" {
		return api.Parcel{}, api.ErrPlace
	}
	return wire.GetParcel(written)
}
