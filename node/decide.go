package node

import (
	"slices"

	"assize/api"
	"assize/court"
	"assize/wire"
)

// begin lets a court on the next height begin, which is told what was recorded.
func (n *Node) begin(recorded []api.Record) {
	n.court, n.filled = court.New(n.last(), n.self), false
	for _, x := range recorded {
		n.court.Redo(x)
	}
	n.fill()
	n.do(n.court.Begin())
}

// fill tells the court what goes into a block that it moves. A court keeps
// what it was told, so it is told anew only when that is another.
func (n *Node) fill() {
	if n.filled {
		return
	}
	nonce := func(who int) int { return n.account(who).Nonce }
	n.court.Fill(n.pool.Pick(nonce, n.gas, api.MaxTxs), n.guilts)
	n.filled = true
}

// do does what the court wants: it is recorded, then it is sent, then what was decided is final.
func (n *Node) do(l []api.Record) {
	if len(l) == 0 {
		return
	}
	if !n.record(l) {
		n.down = true
		return
	}
	n.tell(l)
	for _, x := range l {
		if x.Kind == api.Closed {
			n.end(x.Known)
		}
	}
}

// record: did the log outlive it?
func (n *Node) record(l []api.Record) bool {
	for _, x := range l {
		if n.log.Append(x) == api.ErrDown {
			return false
		}
	}
	return n.log.Sync() != api.ErrDown
}

// tell sends what of the records is for others.
func (n *Node) tell(l []api.Record) {
	m := api.Message{Height: n.next()}
	for _, x := range l {
		switch x.Kind {
		case api.Voted:
			m.Votes = append(m.Votes, x.Vote)
		case api.Moved:
			m.Motions = append(m.Motions, x.Motion)
		case api.Closed:
			m.Knowns = append(m.Knowns, x.Known)
		}
	}
	if len(m.Votes)+len(m.Motions)+len(m.Knowns) > 0 {
		n.send(m)
	}
}

func (n *Node) send(m api.Message) {
	m.From = n.self
	n.out = append(n.out, m)
}

// end: a block was decided, and its court is over.
func (n *Node) end(k api.Known) {
	n.settle(k)
	n.court = nil
	for _, t := range k.Block.Txs {
		n.pool.Forget(t.From, n.account(t.From).Nonce)
	}
	n.guilts = slices.DeleteFunc(n.guilts, func(g api.Guilt) bool { return n.account(g.A.From).Jailed })
}

// settle makes a block final, if the last tip takes it.
func (n *Node) settle(k api.Known) {
	t, _, e := n.last().Take(k.Block)
	if e != api.OK {
		return
	}
	written, _ := wire.PutRecord(api.Record{Kind: api.Closed, Known: k}) // it stands in the log
	n.tips = append(n.tips, t)
	n.finals = append(n.finals, written)
}
