package node

import (
	"slices"

	"assize/api"
	"assize/wire"
)

// Submit: somebody's transaction.
func (n *Node) Submit(t api.Tx) api.Errno {
	if n.down {
		return api.ErrDown
	}
	if _, e := wire.PutTx(t); e != api.OK {
		return e
	}
	if t.Limit > api.MaxGas {
		return api.ErrGas
	}
	a := n.account(t.From)
	if a.Balance < t.Limit*t.Price {
		return api.ErrFunds
	}
	e := n.pool.Add(t, a.Nonce)
	if e == api.OK {
		n.filled = false
	}
	return e
}

// Tick: time passes.
func (n *Node) Tick() {
	if n.down {
		return
	}
	if n.court == nil {
		n.begin(nil)
	} else {
		n.fill()
		n.do(n.court.Tick())
	}
	if !n.down {
		n.send(n.says())
	}
}

// says is what others may not know, and what waits.
func (n *Node) says() api.Message {
	m := api.Message{Height: n.next()}
	if n.court != nil {
		m = n.court.Says()
	}
	l := n.pool.All()
	m.Txs = l[:min(len(l), api.MaxTxs)]
	return m
}

// Take: a message comes.
func (n *Node) Take(m api.Message) {
	if n.down {
		return
	}
	if _, e := wire.PutMessage(m); e != api.OK {
		return
	}
	for _, t := range m.Txs {
		n.Submit(t)
	}
	if n.isFinal(m.Height) {
		n.answer(m)
		return
	}
	n.hear(m)
}

// answer tells one who is behind which block is final.
func (n *Node) answer(m api.Message) {
	if m.From == n.self || slices.ContainsFunc(m.Knowns, decided) {
		return
	}
	k, _ := n.Final(m.Height) // it is final
	n.send(api.Message{To: m.From, Height: m.Height, Knowns: []api.Known{k}})
}

func decided(k api.Known) bool { return k.Cert.Stage == api.Second }

// hear gives what a message says to the court, as long as there is one.
func (n *Node) hear(m api.Message) {
	for _, k := range m.Knowns {
		if n.listens() {
			l, _ := n.court.Known(k)
			n.do(l)
		}
	}
	for _, x := range m.Motions {
		if n.listens() {
			l, g, e := n.court.Motion(x)
			n.do(l)
			n.accuse(g, e)
		}
	}
	for _, v := range m.Votes {
		if n.listens() {
			l, g, e := n.court.Vote(v)
			n.do(l)
			n.accuse(g, e)
		}
	}
}

// listens: is there a court that hears what comes? Then it is filled.
func (n *Node) listens() bool {
	if n.down || n.court == nil {
		return false
	}
	n.fill()
	return true
}

// accuse keeps what proves a voter guilty, if e says that g does, and if it is the first of that voter.
func (n *Node) accuse(g api.Guilt, e api.Errno) {
	if n.down || e != api.ErrGuilt || n.account(g.A.From).Jailed || n.isAccused(g.A.From) {
		return
	}
	n.guilts = append(n.guilts, g)
	n.filled = false
}

func (n *Node) isAccused(who int) bool {
	return slices.ContainsFunc(n.guilts, func(g api.Guilt) bool { return g.A.From == who })
}
