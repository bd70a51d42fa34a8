package block_test

import (
	"slices"
	"testing"

	"assize/api"
	"assize/block"
	"assize/digest"
	"assize/ledger"
	"assize/state"
	"assize/wire"
)

const top = api.MaxNumber

// seats makes a list of who, weight, who, weight and so on.
func seats(l ...int) []api.Seat {
	var out []api.Seat
	for i := 0; i+1 < len(l); i += 2 {
		out = append(out, api.Seat{Who: l[i], Weight: l[i+1]})
	}
	return out
}

// example is the ledger of the document's sessions.
func example() api.Genesis {
	return api.Genesis{Chain: 1, Width: 8, Epoch: 2, Gas: 900, Starts: []api.Start{
		{Who: 1, Balance: 500, Bond: 2}, {Who: 2, Balance: 500, Bond: 2}, {Who: 3, Balance: 500, Bond: 2}, {Who: 4, Balance: 500, Bond: 1}, {Who: 50, Balance: 9000},
	}}
}

func but(how func(*api.Genesis)) api.Genesis {
	g := example()
	how(&g)
	return g
}

func peerView() api.View {
	return api.View{Chain: 2, Width: 3, Epoch: 7, Height: 5, State: 99, Seats: seats(4, 1, 6, 3)}
}

func begin(t *testing.T, g api.Genesis) block.Tip {
	t.Helper()
	tip, e := block.Begin(g)
	if e != api.OK {
		t.Fatalf("Begin(%v): %d", g, e)
	}
	return tip
}

func makes(t *testing.T, tip block.Tip, proposer int, txs []api.Tx, guilts []api.Guilt) api.Block {
	t.Helper()
	b, e := tip.Make(proposer, txs, guilts)
	if e != api.OK {
		t.Fatalf("O3: Make(%d, %v, %v): %d", proposer, txs, guilts, e)
	}
	return b
}

func takes(t *testing.T, tip block.Tip, b api.Block) (block.Tip, []api.Result) {
	t.Helper()
	next, l, e := tip.Take(b)
	if e != api.OK {
		t.Fatalf("O5: Take(%v): %d", b, e)
	}
	return next, l
}

// grow is the tip behind the next block of round 0.
func grow(t *testing.T, tip block.Tip, txs []api.Tx, guilts []api.Guilt) block.Tip {
	t.Helper()
	next, _ := takes(t, tip, makes(t, tip, tip.Leader(0), txs, guilts))
	return next
}

func account(tip block.Tip, who int) api.Account { return state.New(tip.Tree()).Account(who) }

// pay is a payment of 50 to 60, of 1.
func pay(nonce, limit int) api.Tx {
	return api.Tx{Kind: api.Pay, From: 50, Nonce: nonce, Limit: limit, To: 60, Amount: 1}
}

// pays are many of them, from a nonce on.
func pays(n, nonce, limit int) []api.Tx {
	var l []api.Tx
	for i := range n {
		l = append(l, pay(nonce+i, limit))
	}
	return l
}

func twice(height, who int) api.Guilt {
	a := api.Vote{Height: height, Round: 1, Stage: api.First, Has: true, Block: 1, From: who}
	b := a
	b.Block = 2
	return api.Guilt{A: a, B: b}
}

func nonces(l []api.Tx) []int {
	var out []int
	for _, x := range l {
		out = append(out, x.Nonce)
	}
	return out
}

func guilty(l []api.Guilt) []int {
	var out []int
	for _, g := range l {
		out = append(out, g.A.From)
	}
	return out
}

func sameBlock(a, b api.Block) bool {
	x, e := wire.PutBlock(a)
	y, f := wire.PutBlock(b)
	return e == api.OK && f == api.OK && x == y
}

func sameResults(a, b []api.Result) bool {
	return slices.EqualFunc(a, b, func(x, y api.Result) bool {
		return x.Code == y.Code && x.Used == y.Used && x.Value == y.Value && slices.Equal(x.Notes, y.Notes)
	})
}

func rootOf[T any](w int, l []T, put func(T) (string, api.Errno)) api.Digest {
	var out []string
	for _, x := range l {
		s, _ := put(x)
		out = append(out, s)
	}
	return digest.Root(w, out)
}

// toldAnew is the next block of guilts and transactions that all may stand in it, the ledger's tree behind it, and the results: what O4 says.
func toldAnew(g api.Genesis, tip block.Tip, proposer int, txs []api.Tx, guilts []api.Guilt) (api.Block, *state.State, []api.Result) {
	s := state.New(tip.Tree())
	last := tip.Header()
	env := api.Env{Height: last.Height + 1, Epoch: g.Epoch, Proposer: proposer}
	for _, x := range guilts {
		ledger.Punish(s, env, x)
	}
	var results []api.Result
	for _, x := range txs {
		r, _ := ledger.Apply(s, env, x)
		results = append(results, r)
	}
	ledger.Turn(s, env)
	named, _ := wire.PutHeader(last)
	next, _ := wire.PutBench(ledger.Bench(s.Tree(), env.Height/g.Epoch))
	h := api.Header{
		Chain: g.Chain, Height: env.Height, Proposer: proposer, State: s.Tree().Root(),
		Parent:  digest.Of(g.Width, api.TagHeader, named),
		Bench:   digest.Of(g.Width, api.TagBench, next),
		Txs:     rootOf(g.Width, txs, wire.PutTx),
		Guilts:  rootOf(g.Width, guilts, wire.PutGuilt),
		Results: rootOf(g.Width, results, wire.PutResult),
	}
	return api.Block{Header: h, Txs: txs, Guilts: guilts}, s, results
}
