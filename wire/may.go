package wire

import (
	"assize/api"
)

// Here stands which things may be. The bounds of their numbers and lists are
// asked ahead of this, by the pass.

func anything[T any](T) bool { return true }

func all[T any](l []T, may func(T) bool) bool {
	for _, x := range l {
		if !may(x) {
			return false
		}
	}
	return true
}

// rise: are the numbers of the list's parts least or more, each above the one ahead of it?
func rise[T any](l []T, least int, number func(T) int) bool {
	for _, x := range l {
		n := number(x)
		if n < least {
			return false
		}
		least = n + 1
	}
	return true
}

func mayVote(v api.Vote) bool {
	if v.Stage < api.Moves || v.Stage > api.Second || v.From < 1 {
		return false
	}
	return v.Has || v.Block == 0 && v.Stage != api.Moves
}

func mayCert(c api.Cert) bool {
	if c.Stage != api.First && c.Stage != api.Second {
		return false
	}
	if !c.Has && c.Block != 0 {
		return false
	}
	return rise(c.Froms, 1, func(n int) int { return n })
}

func mayBench(l []api.Seat) bool {
	return rise(l, 1, func(s api.Seat) int { return s.Who }) &&
		all(l, func(s api.Seat) bool { return s.Weight >= 1 })
}

func mayProof(p api.Proof) bool {
	if !p.Leaf {
		return len(p.Turns) == 0 && p.Key == "" && p.Value == ""
	}
	return p.Value != "" && rise(p.Turns, 0, func(t api.Turn) int { return t.Pos })
}

func maySight(s api.Sight) bool {
	return mayCert(s.Cert) && mayBench(s.Seats)
}

// txFields: which fields, beside those that all have, a transaction has.
type txFields struct {
	to, amount, text, args bool
	sights, proofs         int
}

func fieldsOf(kind int) txFields {
	f := txFields{}
	switch kind {
	case api.Call:
		f.text, f.args = true, true
		fallthrough
	case api.Pay, api.Send, api.Return:
		f.to = true
		fallthrough
	case api.Bond, api.Leave:
		f.amount = true
	case api.Make:
		f.text, f.amount = true, true
	case api.Show:
		f.sights = 1
	case api.Claim:
		f.proofs = 1
	}
	return f
}

func mayTx(t api.Tx) bool {
	if t.Kind < api.Pay || t.Kind > api.Claim || t.From < 1 {
		return false
	}
	f := fieldsOf(t.Kind)
	if f.to != (t.To >= 1) || !f.amount && t.Amount != 0 {
		return false
	}
	if !f.text && t.Text != "" || !f.args && len(t.Args) > 0 {
		return false
	}
	if f.sights != len(t.Sights) || f.proofs != len(t.Proofs) {
		return false
	}
	return all(t.Sights, maySight) && all(t.Proofs, mayProof)
}

func mayGuilt(g api.Guilt) bool { return mayVote(g.A) && mayVote(g.B) }

func mayBlock(b api.Block) bool { return all(b.Txs, mayTx) && all(b.Guilts, mayGuilt) }

func mayMotion(m api.Motion) bool {
	return m.From >= 1 && mayBlock(m.Block) && all(m.Basis, mayCert)
}

func mayKnown(k api.Known) bool { return mayCert(k.Cert) && mayBlock(k.Block) }

func mayMessage(m api.Message) bool {
	return m.From >= 1 && all(m.Votes, mayVote) && all(m.Motions, mayMotion) &&
		all(m.Knowns, mayKnown) && all(m.Txs, mayTx)
}

func mayRecord(x api.Record) bool {
	switch x.Kind {
	case api.Voted:
		return mayVote(x.Vote) && noMotion(x.Motion) && noKnown(x.Known)
	case api.Moved:
		return mayMotion(x.Motion) && noVote(x.Vote) && noKnown(x.Known)
	case api.Locked, api.Closed:
		return mayKnown(x.Known) && noVote(x.Vote) && noMotion(x.Motion)
	}
	return false
}

func noVote(v api.Vote) bool { return v == api.Vote{} }

func noCert(c api.Cert) bool {
	return c.Height == 0 && c.Round == 0 && c.Stage == 0 && !c.Has && c.Block == 0 && len(c.Froms) == 0
}

func noBlock(b api.Block) bool {
	return b.Header == api.Header{} && len(b.Txs) == 0 && len(b.Guilts) == 0
}

func noMotion(m api.Motion) bool {
	return m.Round == 0 && m.From == 0 && noBlock(m.Block) && len(m.Basis) == 0
}

func noKnown(k api.Known) bool { return noCert(k.Cert) && noBlock(k.Block) }

func mayParcel(p api.Parcel) bool {
	return (p.Kind == api.Ours || p.Kind == api.Theirs) && p.To >= 1
}

func mayView(v api.View) bool {
	return v.Width >= 1 && v.Width <= 8 && v.Epoch >= 1 && mayBench(v.Seats)
}
