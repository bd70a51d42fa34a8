package world_test

import (
	"fmt"
	"testing"

	"assize/api"
	"assize/block"
	"assize/node"
	"assize/state"
	"assize/world"
)

const top = api.MaxNumber

// six is the ledger of the document's sessions. The rounds of its first
// height are led by 1, 2, 3, 4, those of its second one by 2, 3, 4.
func six() api.Genesis {
	return api.Genesis{Chain: 1, Width: 8, Epoch: 2, Gas: 900, Starts: []api.Start{
		{Who: 1, Balance: 500, Bond: 2}, {Who: 2, Balance: 500, Bond: 2}, {Who: 3, Balance: 500, Bond: 2},
		{Who: 4, Balance: 500, Bond: 1}, {Who: 50, Balance: 9000},
	}}
}

// lone is a ledger with one node, which needs nobody to decide.
func lone() api.Genesis {
	g := six()
	g.Starts = []api.Start{{Who: 1, Balance: 500, Bond: 2}, {Who: 50, Balance: 9000}}
	return g
}

// sixteen is a ledger with as many nodes as may be, of which seven have a seat.
func sixteen() api.Genesis {
	g := api.Genesis{Chain: 1, Width: 8, Epoch: 2, Gas: 900}
	for i := range api.MaxStarts {
		g.Starts = append(g.Starts, api.Start{Who: 10 * (i + 1), Balance: 500, Bond: 100 - i})
	}
	return g
}

func begun(t *testing.T, g api.Genesis, liars ...int) *world.World {
	t.Helper()
	w, e := world.New(g, liars)
	if e != api.OK || w == nil {
		t.Fatalf("X1: New(%v, %v): %d", g, liars, e)
	}
	return w
}

func tipOf(t *testing.T, g api.Genesis) block.Tip {
	t.Helper()
	tip, e := block.Begin(g)
	if e != api.OK {
		t.Fatalf("Begin(%v): %d", g, e)
	}
	return tip
}

// says asks for what a call answers.
func says(t *testing.T, what string, got, want api.Errno) {
	t.Helper()
	if got != want {
		t.Errorf("%s: it says %d, not %d", what, got, want)
	}
}

// up is a node that is up.
func up(t *testing.T, w *world.World, who int) *node.Node {
	t.Helper()
	n, e := w.Node(who)
	if e != api.OK || n == nil {
		t.Fatalf("X6: Node(%d): %d", who, e)
	}
	return n
}

// isDown asks whether a node is no more.
func isDown(t *testing.T, what string, w *world.World, who int) {
	t.Helper()
	if n, e := w.Node(who); e != api.ErrDown || n != nil {
		t.Errorf("%s: Node(%d) says %d, not ErrDown", what, who, e)
	}
}

// at asks where a node is.
func at(t *testing.T, what string, w *world.World, who, height, round, step int) {
	t.Helper()
	if h, r, s := up(t, w, who).Height(); h != height || r != round || s != step {
		t.Errorf("%s: %d is at %d %d %d, not at %d %d %d", what, who, h, r, s, height, round, step)
	}
}

// lastTip is the ledger behind a node's last block.
func lastTip(n *node.Node) block.Tip {
	height, _, _ := n.Height()
	tip, _ := n.Tip(height)
	return tip
}

func account(tip block.Tip, who int) api.Account { return state.New(tip.Tree()).Account(who) }

// way is all that is on its way.
func way(t *testing.T, w *world.World) []api.Message {
	t.Helper()
	var l []api.Message
	for i := range w.Way() {
		m, e := w.Peek(i)
		if e != api.OK {
			t.Fatalf("X6: Peek(%d) of %d: %d", i, w.Way(), e)
		}
		l = append(l, m)
	}
	return l
}

// addressed is from whom to whom all goes that is on its way.
func addressed(t *testing.T, w *world.World) []string {
	t.Helper()
	l := []string{}
	for _, m := range way(t, w) {
		l = append(l, fmt.Sprint(m.From, m.To))
	}
	return l
}

// onWay asks from whom to whom all goes that is on its way.
func onWay(t *testing.T, what string, w *world.World, want ...string) {
	t.Helper()
	if got := addressed(t, w); fmt.Sprint(got) != fmt.Sprint(want) {
		t.Errorf("%s: %q are on their way, not %q", what, got, want)
	}
}

// dropAll drops all that is on its way.
func dropAll(w *world.World) {
	for w.Way() > 0 {
		w.Net(api.Drop, 0)
	}
}

// fill doubles what is on its way until there is no room.
func fill(t *testing.T, w *world.World) {
	t.Helper()
	for w.Way() < 4096 {
		if e := w.Net(api.Double, 0); e != api.OK {
			t.Fatalf("X3: Double: %d", e)
		}
	}
}

// pay is a payment of 50.
func pay(nonce int) api.Tx {
	return api.Tx{Kind: api.Pay, From: 50, Nonce: nonce, Price: 1, Limit: 16, To: 60, Amount: 1}
}

// ballot is a vote at First of the height 1.
func ballot(from, round int, name api.Digest) api.Vote {
	return api.Vote{Height: 1, Round: round, Stage: api.First, Has: true, Block: name, From: from}
}

func made(t *testing.T, tip block.Tip, proposer int, txs ...api.Tx) api.Block {
	t.Helper()
	b, e := tip.Make(proposer, txs, nil)
	if e != api.OK || len(b.Txs) != len(txs) {
		t.Fatalf("Make(%d, %v): %v %d", proposer, txs, b, e)
	}
	return b
}

// Things are held against each other as they are printed: an empty list may be nil or not.
func same(a, b any) bool { return fmt.Sprint(a) == fmt.Sprint(b) }

// look is what the document's sessions tell of a node.
func look(t *testing.T, w *world.World, who int) string {
	t.Helper()
	n, e := w.Node(who)
	if e != api.OK {
		return fmt.Sprintf("error %d", e)
	}
	height, round, step := n.Height()
	s := fmt.Sprintf("node %d height %d round %d step %d waiting %d guilts %d", who, height, round, step, len(n.Waiting()), len(n.Guilts()))
	for i := range height {
		k, _ := n.Final(i + 1)
		tip, _ := n.Tip(i)
		s += fmt.Sprintf(", %d %016x %d", i+1, uint64(tip.Name(k.Block.Header)), len(k.Block.Txs))
	}
	return s
}

func looks(t *testing.T, w *world.World, who int, want string) {
	t.Helper()
	if got := look(t, w, who); got != want {
		t.Errorf("the document's example: %s; not %s", got, want)
	}
}
