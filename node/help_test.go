package node_test

import (
	"fmt"
	"slices"
	"testing"

	"assize/api"
	"assize/block"
	"assize/node"
	"assize/state"
	"assize/wal"
)

const top = api.MaxNumber

// six is the ledger of the document's sessions. The rounds of its first
// height are led by 1, 2, 3, 4, those of its second one by 2, 3, 4.
func six() api.Genesis {
	return api.Genesis{Chain: 1, Width: 8, Epoch: 2, Gas: 900, Starts: []api.Start{
		{Who: 1, Balance: 500, Bond: 2}, {Who: 2, Balance: 500, Bond: 2}, {Who: 3, Balance: 500, Bond: 2},
		{Who: 4, Balance: 500, Bond: 1}, {Who: 50, Balance: 9000},
	}}
}

// lone is a ledger with one seat, that of 1.
func lone() api.Genesis {
	g := six()
	g.Starts = []api.Start{{Who: 1, Balance: 500, Bond: 2}, {Who: 50, Balance: 9000}}
	return g
}

func tipOf(t *testing.T, g api.Genesis) block.Tip {
	t.Helper()
	tip, e := block.Begin(g)
	if e != api.OK {
		t.Fatalf("Begin(%v): %d", g, e)
	}
	return tip
}

// risen is a node over a log.
func risen(t *testing.T, g api.Genesis, self int, log *wal.Log) *node.Node {
	t.Helper()
	n, e := node.New(g, self, log)
	if e != api.OK {
		t.Fatalf("U1: New(%v, %d): %d", g, self, e)
	}
	return n
}

// fresh is a node of the ledger six over a new log; what it sent is taken off.
func fresh(t *testing.T, self int) (*node.Node, *wal.Log) {
	t.Helper()
	log := wal.New()
	n := risen(t, six(), self, log)
	n.Out()
	return n, log
}

// logOf is a log with these records.
func logOf(t *testing.T, l ...api.Record) *wal.Log {
	t.Helper()
	log := wal.New()
	for _, x := range l {
		if e := log.Append(x); e != api.OK {
			t.Fatalf("Append(%v): %d", x, e)
		}
	}
	return log
}

// recorded asks whether a log has just these records, all of them safe.
func recorded(t *testing.T, what string, log *wal.Log, l ...api.Record) {
	t.Helper()
	s, safe := log.Bytes()
	want, _ := logOf(t, l...).Bytes()
	if s != want || safe != len(s) {
		t.Errorf("%s: the log has %v, %d of %d bytes safe, not %v", what, log.Begin(), safe, len(s), l)
	}
}

// sent asks whether just these messages went out.
func sent(t *testing.T, what string, n *node.Node, l ...api.Message) {
	t.Helper()
	if got := n.Out(); fmt.Sprint(got) != fmt.Sprint(l) {
		t.Errorf("%s: %v goes out, not %v", what, got, l)
	}
}

// at asks where a node is.
func at(t *testing.T, what string, n *node.Node, height, round, step int) {
	t.Helper()
	if h, r, s := n.Height(); h != height || r != round || s != step {
		t.Errorf("%s: it is at %d %d %d, not at %d %d %d", what, h, r, s, height, round, step)
	}
}

// waits asks which transactions wait.
func waits(t *testing.T, what string, n *node.Node, l ...api.Tx) {
	t.Helper()
	if got := n.Waiting(); fmt.Sprint(got) != fmt.Sprint(l) {
		t.Errorf("%s: %v wait, not %v", what, got, l)
	}
}

// accused asks which guilts a node has.
func accused(t *testing.T, what string, n *node.Node, l ...api.Guilt) {
	t.Helper()
	if got := n.Guilts(); !slices.Equal(got, l) {
		t.Errorf("%s: the guilts are %v, not %v", what, got, l)
	}
}

// submit lets transactions wait.
func submit(t *testing.T, n *node.Node, l ...api.Tx) {
	t.Helper()
	for _, x := range l {
		if e := n.Submit(x); e != api.OK {
			t.Fatalf("U3: Submit(%v): %d", x, e)
		}
	}
}

// pay is a payment to 60.
func pay(from, nonce, price int) api.Tx {
	return api.Tx{Kind: api.Pay, From: from, Nonce: nonce, Price: price, Limit: 16, To: 60, Amount: 1}
}

// made is the next block of a tip.
func made(t *testing.T, tip block.Tip, proposer int, txs []api.Tx, guilts ...api.Guilt) api.Block {
	t.Helper()
	b, e := tip.Make(proposer, txs, guilts)
	if e != api.OK || len(b.Txs) != len(txs) || len(b.Guilts) != len(guilts) {
		t.Fatalf("Make(%d, %v, %v): %v %d", proposer, txs, guilts, b, e)
	}
	return b
}

// behind is the tip behind a block.
func behind(t *testing.T, tip block.Tip, b api.Block) block.Tip {
	t.Helper()
	x, _, e := tip.Take(b)
	if e != api.OK {
		t.Fatalf("Take(%v): %d", b, e)
	}
	return x
}

// known is a block with a cert of 1, 2 and 3.
func known(tip block.Tip, b api.Block, round, stage int) api.Known {
	c := api.Cert{Height: b.Header.Height, Round: round, Stage: stage, Has: true, Block: tip.Name(b.Header), Froms: []int{1, 2, 3}}
	return api.Known{Cert: c, Block: b}
}

// ballot is a vote for a block.
func ballot(tip block.Tip, b api.Block, round, stage, from int) api.Vote {
	return api.Vote{Height: b.Header.Height, Round: round, Stage: stage, Has: true, Block: tip.Name(b.Header), From: from}
}

// blank is a vote for none.
func blank(height, round, stage, from int) api.Vote {
	return api.Vote{Height: height, Round: round, Stage: stage, From: from}
}

// twice proves that somebody voted for the blocks 1 and 2 at First of a round.
func twice(height, round, who int) api.Guilt {
	a := api.Vote{Height: height, Round: round, Stage: api.First, Has: true, Block: 1, From: who}
	b := a
	b.Block = 2
	return api.Guilt{A: a, B: b}
}

func account(tip block.Tip, who int) api.Account { return state.New(tip.Tree()).Account(who) }

func voted(v api.Vote) api.Record { return api.Record{Kind: api.Voted, Vote: v} }

func moved(m api.Motion) api.Record { return api.Record{Kind: api.Moved, Motion: m} }

func locked(k api.Known) api.Record { return api.Record{Kind: api.Locked, Known: k} }

func closed(k api.Known) api.Record { return api.Record{Kind: api.Closed, Known: k} }

// These hold things against each other as they are printed: an empty list may be nil or not.

func sameKnown(a, b api.Known) bool { return fmt.Sprint(a) == fmt.Sprint(b) }

func sameBlock(a, b api.Block) bool { return fmt.Sprint(a) == fmt.Sprint(b) }

func sameMessage(a, b api.Message) bool { return fmt.Sprint(a) == fmt.Sprint(b) }
