package bridge_test

import (
	"fmt"
	"testing"

	"assize/api"
	"assize/block"
	"assize/bridge"
	"assize/state"
)

const top = api.MaxNumber

// two are the ledgers of most tests: 50 has money in both.
func two() (a, b api.Genesis) {
	a = api.Genesis{Chain: 1, Width: 8, Epoch: 2, Gas: 900, Starts: []api.Start{
		{Who: 1, Balance: 500, Bond: 2}, {Who: 2, Balance: 500, Bond: 2}, {Who: 3, Balance: 500, Bond: 1}, {Who: 50, Balance: 9000},
	}}
	b = api.Genesis{Chain: 2, Width: 7, Epoch: 3, Gas: 700, Starts: []api.Start{
		{Who: 7, Balance: 400, Bond: 1}, {Who: 8, Balance: 400, Bond: 3}, {Who: 50, Balance: 5000},
	}}
	return a, b
}

func begun(t *testing.T, a, b api.Genesis) *bridge.Bridge {
	t.Helper()
	x, e := bridge.New(a, b)
	if e != api.OK || x == nil {
		t.Fatalf("H1: New(%v, %v): %d", a, b, e)
	}
	return x
}

// tipOf is the beginning of a ledger with a peer.
func tipOf(t *testing.T, g api.Genesis, peer api.View) block.Tip {
	t.Helper()
	g.Peers = []api.View{peer}
	tip, e := block.Begin(g)
	if e != api.OK {
		t.Fatalf("Begin(%v): %d", g, e)
	}
	return tip
}

func viewOf(t *testing.T, g api.Genesis) api.View {
	t.Helper()
	v, e := bridge.View(g)
	if e != api.OK {
		t.Fatalf("H1: View(%v): %d", g, e)
	}
	return v
}

// grows is what comes of the next block.
func grows(t *testing.T, x *bridge.Bridge, k int, txs ...api.Tx) []api.Result {
	t.Helper()
	was := x.Height(k)
	l, e := x.Block(k, txs)
	if e != api.OK || x.Height(k) != was+1 {
		t.Fatalf("H2: Block(%d, %v): %d; the height is %d", k, txs, e, x.Height(k))
	}
	return l
}

func lastTip(t *testing.T, x *bridge.Bridge, k int) block.Tip {
	t.Helper()
	tip, e := x.Tip(k, x.Height(k))
	if e != api.OK {
		t.Fatalf("H2: Tip(%d, %d): %d", k, x.Height(k), e)
	}
	return tip
}

func account(t *testing.T, x *bridge.Bridge, k, who int) api.Account {
	t.Helper()
	return state.New(lastTip(t, x, k).Tree()).Account(who)
}

func sightOf(t *testing.T, x *bridge.Bridge, k, height int) api.Sight {
	t.Helper()
	s, e := x.Sight(k, height)
	if e != api.OK {
		t.Fatalf("H2: Sight(%d, %d): %d", k, height, e)
	}
	return s
}

func proofOf(t *testing.T, x *bridge.Bridge, k, height, n int) api.Proof {
	t.Helper()
	p, e := x.Proof(k, height, n)
	if e != api.OK {
		t.Fatalf("H2: Proof(%d, %d, %d): %d", k, height, n, e)
	}
	return p
}

// Transactions of 50.

func sends(nonce, to, amount int) api.Tx {
	return api.Tx{Kind: api.Send, From: 50, Nonce: nonce, Limit: 100, To: to, Amount: amount}
}

func returns(nonce, to, amount int) api.Tx {
	return api.Tx{Kind: api.Return, From: 50, Nonce: nonce, Limit: 100, To: to, Amount: amount}
}

func shows(nonce int, s api.Sight) api.Tx {
	return api.Tx{Kind: api.Show, From: 50, Nonce: nonce, Limit: 100, Sights: []api.Sight{s}}
}

func claims(nonce int, p api.Proof) api.Tx {
	return api.Tx{Kind: api.Claim, From: 50, Nonce: nonce, Limit: 100, Proofs: []api.Proof{p}}
}

func pays(nonce int) api.Tx {
	return api.Tx{Kind: api.Pay, From: 50, Nonce: nonce, Limit: 16, To: 60, Amount: 1}
}

// Things are held against each other as they are printed: an empty list may be nil or not.
func same(a, b any) bool { return fmt.Sprint(a) == fmt.Sprint(b) }

// whole is all that a bridge tells.
func whole(x *bridge.Bridge) string {
	s := ""
	for k := range 2 {
		for h := range x.Height(k) + 1 {
			tip, _ := x.Tip(k, h)
			sight, e := x.Sight(k, h)
			proof, f := x.Proof(k, h, 0)
			s += fmt.Sprintln(k, h, tip.Header(), tip.Bench(), sight, e, proof, f)
		}
	}
	return s
}
