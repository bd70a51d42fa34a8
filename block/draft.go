package block

import (
	"assize/api"
	"assize/bench"
	"assize/digest"
	"assize/ledger"
	"assize/state"
	"assize/wire"
)

// draft: the block behind a tip, while it is being made or taken.
type draft struct {
	last    Tip
	env     api.Env
	state   *state.State
	left    int      // of the gas
	guilts  []string // as they are written
	txs     []string
	results []api.Result
}

func (t Tip) draft(proposer int) *draft {
	env := api.Env{Height: t.header.Height + 1, Epoch: t.epoch, Proposer: proposer}
	return &draft{last: t, env: env, state: state.New(t.tree), left: t.gas}
}

// guilt punishes; with an error nothing has changed.
func (d *draft) guilt(g api.Guilt) api.Errno {
	if e := ledger.Punish(d.state, d.env, g); e != api.OK {
		return e
	}
	written, _ := wire.PutGuilt(g) // what was punished may be
	d.guilts = append(d.guilts, written)
	return api.OK
}

// tx does a transaction; with an error nothing has changed.
func (d *draft) tx(t api.Tx) api.Errno {
	if t.Limit > d.left {
		return api.ErrGas
	}
	r, e := ledger.Apply(d.state, d.env, t)
	if e != api.OK {
		return e
	}
	written, _ := wire.PutTx(t) // what was applied may be
	d.txs = append(d.txs, written)
	d.results = append(d.results, r)
	d.left -= t.Limit
	return api.OK
}

// end ends the block: the tip behind it.
func (d *draft) end() Tip {
	ledger.Turn(d.state, d.env)
	t := d.last
	t.tree = d.state.Tree()
	t.header = api.Header{
		Chain: d.last.header.Chain, Height: d.env.Height,
		Parent: d.last.Name(d.last.header), Proposer: d.env.Proposer,
	}
	return t.told(d.guilts, d.txs, d.results)
}

// told is the tip with the digests of all that its header tells of.
func (t Tip) told(guilts, txs []string, results []api.Result) Tip {
	var written []string
	for _, r := range results {
		s, _ := wire.PutResult(r)
		written = append(written, s)
	}
	t.header.Guilts = digest.Root(t.width, guilts)
	t.header.Txs = digest.Root(t.width, txs)
	t.header.Results = digest.Root(t.width, written)
	t.header.State = t.tree.Root()
	t.header.Bench = bench.Digest(t.width, t.Bench())
	return t
}
