package world

import (
	"slices"

	"assize/api"
	"assize/court"
	"assize/wire"
)

// Lie: a liar says something, to one node (To) or to all (0).
func (w *World) Lie(m api.Message) api.Errno {
	if _, e := wire.PutMessage(m); e != api.OK {
		return e
	}
	if !w.isLiar(m.From) {
		return api.ErrSeat
	}
	if w.isForged(m) {
		return api.ErrForge
	}
	if m.To == 0 || m.To != m.From && w.keeper(m.To) != nil {
		w.send(fresh(m))
	}
	return api.OK
}

func (w *World) isLiar(who int) bool { return slices.Contains(w.liars, who) }

// hear keeps in mind what a node sent: from now on it was said.
func (w *World) hear(m api.Message) {
	for _, v := range w.votesOf(m) {
		if !w.isLiar(v.From) {
			w.said[v] = struct{}{}
		}
	}
	for _, t := range txsOf(m) {
		w.sign(t)
	}
}

// sign keeps in mind that a transaction is its sender's. As with votes nothing
// of a liar's own is kept: nobody asks whether that was said.
func (w *World) sign(t api.Tx) api.Errno {
	written, e := wire.PutTx(t)
	if e == api.OK && !w.isLiar(t.From) {
		w.signed[written] = struct{}{}
	}
	return e
}

// isForged: does a message, which may be, say what nobody said?
func (w *World) isForged(m api.Message) bool {
	return slices.ContainsFunc(w.votesOf(m), w.isForgedVote) || slices.ContainsFunc(txsOf(m), w.isForgedTx)
}

func (w *World) isForgedVote(v api.Vote) bool {
	_, there := w.said[v]
	return !there && !w.isLiar(v.From)
}

func (w *World) isForgedTx(t api.Tx) bool {
	written, _ := wire.PutTx(t)
	_, there := w.signed[written]
	return !there && !w.isLiar(t.From)
}

// votesOf are the votes that a message says, wherever they stand in it.
// What a transaction shows of the other ledger is its sender's word, not a vote here.
func (w *World) votesOf(m api.Message) []api.Vote {
	l := slices.Clone(m.Votes)
	for _, x := range m.Motions {
		l = append(l, court.Moving(w.start, x))
		for _, c := range x.Basis {
			l = append(l, votesOfCert(c)...)
		}
		l = append(l, votesOfBlock(x.Block)...)
	}
	for _, k := range m.Knowns {
		l = append(l, votesOfCert(k.Cert)...)
		l = append(l, votesOfBlock(k.Block)...)
	}
	return l
}

func votesOfCert(c api.Cert) []api.Vote {
	var l []api.Vote
	for _, who := range c.Froms {
		l = append(l, api.Vote{Height: c.Height, Round: c.Round, Stage: c.Stage, Has: c.Has, Block: c.Block, From: who})
	}
	return l
}

func votesOfBlock(b api.Block) []api.Vote {
	var l []api.Vote
	for _, g := range b.Guilts {
		l = append(l, g.A, g.B)
	}
	return l
}

// txsOf are the transactions that a message says, those in blocks too.
func txsOf(m api.Message) []api.Tx {
	l := slices.Clone(m.Txs)
	for _, x := range m.Motions {
		l = append(l, x.Block.Txs...)
	}
	for _, k := range m.Knowns {
		l = append(l, k.Block.Txs...)
	}
	return l
}
