package node_test

import (
	"testing"

	"assize/api"
	"assize/node"
	"assize/wal"
)

// stands asks whether nothing happens to a node that is down.
func stands(t *testing.T, what string, n *node.Node) {
	t.Helper()
	tip := tipOf(t, six())
	h, r, s := n.Height()
	waiting, guilts := n.Waiting(), n.Guilts()
	if !n.Down() {
		t.Fatalf("%s: it is not down", what)
	}
	sent(t, what, n)
	for range 9 {
		n.Tick()
	}
	n.Take(api.Message{From: 3, Height: 1, Txs: []api.Tx{pay(50, 1, 1)}})
	n.Take(api.Message{From: 3, Height: 1, Votes: []api.Vote{twice(1, 0, 4).A, twice(1, 0, 4).B}})
	n.Take(api.Message{From: 3, Height: 1, Knowns: []api.Known{known(tip, made(t, tip, 1, nil), 0, api.Second)}})
	if e := n.Submit(pay(50, 0, 1)); e != api.ErrDown {
		t.Errorf("%s, U3: Submit: %d", what, e)
	}
	if e := n.Submit(api.Tx{}); e != api.ErrDown {
		t.Errorf("%s, U3: Submit of what may not be: %d", what, e)
	}
	sent(t, what, n)
	at(t, what, n, h, r, s)
	waits(t, what, n, waiting...)
	accused(t, what, n, guilts...)
}

func TestItIsDownWhereTheLogDies(t *testing.T) {
	tip := tipOf(t, six())
	b := made(t, tip, 1, nil)
	m := api.Message{From: 1, Height: 1, Motions: []api.Motion{{From: 1, Block: b}}, Votes: []api.Vote{
		ballot(tip, b, 0, api.First, 1), ballot(tip, b, 0, api.First, 3),
		ballot(tip, b, 0, api.Second, 1), ballot(tip, b, 0, api.Second, 3),
	}}
	v, w := ballot(tip, b, 0, api.First, 2), ballot(tip, b, 0, api.Second, 2)
	first := api.Message{From: 2, Height: 1, Votes: []api.Vote{v}}
	second := api.Message{From: 2, Height: 1, Votes: []api.Vote{w}}
	// The acts: Voted, Sync; Locked, Voted, Sync; Closed, Sync.
	for i, went := range [][]api.Message{1: {}, 2: {}, 3: {first}, 4: {first}, 5: {first}, 6: {first, second}, 7: {first, second}} {
		if i == 0 {
			continue
		}
		for _, keep := range []int{0, 10, 1 << 20} {
			n, log := fresh(t, 2)
			log.Arm(i, keep)
			n.Take(m)
			sent(t, "U2: what went out ahead of the death", n, went...)
			at(t, "U2: the log died", n, 0, 0, []int{0, 1, 1, 2, 2, 2, 2, 2}[i])
			stands(t, "U2: the log died", n)
		}
	}
	n, log := fresh(t, 2)
	log.Arm(8, 0)
	n.Take(m)
	if n.Down() {
		t.Errorf("U2: there are more acts than seven")
	}
	at(t, "U2: all was done", n, 1, -1, 0)
	n.Out()
	n.Tick()
	stands(t, "U2: the first act of the next court", n)
	at(t, "U2: the first act of the next court", n, 1, 0, 1)
}

func TestNothingIsNoAct(t *testing.T) {
	n, log := fresh(t, 2)
	log.Arm(1, 0)
	submit(t, n, pay(50, 0, 1))
	n.Tick()
	n.Tick()
	n.Take(api.Message{From: 3, Height: 1, Votes: []api.Vote{blank(1, 0, 1, 3)}, Txs: []api.Tx{pay(50, 1, 1)}})
	if n.Down() {
		t.Fatalf("U2: an act is done where nothing is wanted")
	}
	if l := n.Out(); len(l) != 2 {
		t.Errorf("U3: two ticks send %v", l)
	}
	n.Tick()
	stands(t, "U2: the third tick votes, and the log dies", n)
}

func TestALogThatDiedAhead(t *testing.T) {
	n, log := fresh(t, 2)
	log.Die(0)
	n.Tick()
	if n.Down() {
		t.Errorf("U2: it is down ahead of its first act")
	}
	sent(t, "U3: nothing is to be recorded yet", n, api.Message{From: 2, Height: 1})
	n.Tick()
	n.Out()
	n.Tick()
	stands(t, "U2: what is to be recorded can't be", n)
}

func TestRecordsInOrderAndSafe(t *testing.T) {
	tip := tipOf(t, six())
	b := made(t, tip, 1, nil)
	n, log := fresh(t, 3)
	n.Take(api.Message{From: 1, Height: 1, Motions: []api.Motion{{From: 1, Block: b}}})
	v := ballot(tip, b, 0, api.First, 3)
	recorded(t, "U2: a vote", log, voted(v))
	sent(t, "U2: a vote", n, api.Message{From: 3, Height: 1, Votes: []api.Vote{v}})
	n.Take(api.Message{From: 1, Height: 1, Votes: []api.Vote{ballot(tip, b, 0, api.First, 1), ballot(tip, b, 0, api.First, 4)}})
	k := known(tip, b, 0, api.First)
	k.Cert.Froms = []int{1, 3, 4}
	w := ballot(tip, b, 0, api.Second, 3)
	recorded(t, "U2: a block that is held on to, and a vote", log, voted(v), locked(k), voted(w))
	sent(t, "U2: what is held on to is nobody else's", n, api.Message{From: 3, Height: 1, Votes: []api.Vote{w}})
}

func TestWhatIsHeldOnToAloneIsNotSent(t *testing.T) {
	tip := tipOf(t, six())
	n, log := fresh(t, 9)
	k := known(tip, made(t, tip, 1, nil), 0, api.First)
	n.Take(api.Message{From: 1, Height: 1, Knowns: []api.Known{k}})
	recorded(t, "U2: one who looks on", log, locked(k))
	sent(t, "U2: one who looks on", n)
	at(t, "U2: one who looks on", n, 0, 0, 2)
}

func TestFinal(t *testing.T) {
	tip := tipOf(t, six())
	k := known(tip, made(t, tip, 1, []api.Tx{pay(50, 0, 1)}), 3, api.Second)
	n, log := fresh(t, 2)
	n.Take(api.Message{From: 1, Height: 1, Knowns: []api.Known{k}, Votes: []api.Vote{blank(1, 0, 1, 3), twice(1, 1, 4).A, twice(1, 1, 4).B}})
	recorded(t, "U2: a block is decided", log, closed(k))
	sent(t, "U2: a block is decided", n, api.Message{From: 2, Height: 1, Knowns: []api.Known{k}})
	at(t, "U2: a block is decided, and the court is over", n, 1, -1, 0)
	accused(t, "U4: where there is no court nothing is heard", n)
	next := behind(t, tip, k.Block)
	n.Take(api.Message{From: 1, Height: 2, Motions: []api.Motion{{Round: 1, From: 3, Block: made(t, next, 3, nil)}}, Votes: []api.Vote{twice(2, 1, 4).A, twice(2, 1, 4).B}})
	sent(t, "U4: ahead of the next Tick there is no court", n)
	accused(t, "U4: ahead of the next Tick there is no court", n)
	n.Tick()
	at(t, "U2, U3: the next court begins with the next Tick", n, 1, 0, 1)
	b := made(t, next, 2, nil)
	v := ballot(next, b, 0, api.First, 2)
	m := api.Message{From: 2, Height: 2, Votes: []api.Vote{v}, Motions: []api.Motion{{From: 2, Block: b}}}
	says := m
	says.Votes = []api.Vote{ballot(next, b, 0, api.Moves, 2), v}
	sent(t, "U3: the next court", n, m, says)
}

func TestThePoolForgets(t *testing.T) {
	tip := tipOf(t, six())
	n, _ := fresh(t, 2)
	submit(t, n, pay(50, 0, 5), pay(50, 1, 5), pay(50, 2, 5), pay(50, 3, 5), pay(3, 0, 1), pay(3, 1, 1), pay(1, 0, 2))
	txs := []api.Tx{pay(50, 0, 5), pay(50, 1, 9), pay(50, 2, 5), pay(1, 0, 2)}
	n.Take(api.Message{From: 1, Height: 1, Knowns: []api.Known{known(tip, made(t, tip, 1, txs), 0, api.Second)}})
	waits(t, "U2: the pool forgets what is below the Nonce of who stands in the block", n, pay(3, 0, 1), pay(3, 1, 1), pay(50, 3, 5))
	if e := n.Submit(pay(50, 2, 5)); e != api.ErrNonce {
		t.Errorf("U3: by the Nonce behind the last final block Submit says %d", e)
	}
}

func TestGuiltsOfThoseWhoAreJailedGo(t *testing.T) {
	tip := tipOf(t, six())
	n, _ := fresh(t, 2)
	three, four := twice(1, 0, 3), twice(1, 0, 4)
	n.Take(api.Message{From: 1, Height: 1, Votes: []api.Vote{four.A, four.B, three.A, three.B}})
	accused(t, "U4: two who are guilty", n, four, three)
	// Who is jailed is so by whatever guilt, not just by the one that was seen here.
	b := made(t, tip, 1, nil, twice(1, 9, 4))
	n.Take(api.Message{From: 1, Height: 1, Knowns: []api.Known{known(tip, b, 0, api.Second)}})
	accused(t, "U2: one is jailed", n, three)
	if !account(behind(t, tip, b), 4).Jailed {
		t.Fatalf("the block does not jail")
	}
	n.Tick()
	g := twice(2, 0, 4)
	n.Take(api.Message{From: 1, Height: 2, Votes: []api.Vote{g.A, g.B}})
	accused(t, "U4: who is jailed is not accused again", n, three)
}

// lastMotion is the motion that went out last.
func lastMotion(t *testing.T, what string, n *node.Node) api.Motion {
	t.Helper()
	var l []api.Motion
	for _, m := range n.Out() {
		l = append(l, m.Motions...)
	}
	if len(l) == 0 {
		t.Fatalf("%s: nothing is moved", what)
	}
	return l[len(l)-1]
}

func TestFilledAheadOfEachCall(t *testing.T) {
	tip := tipOf(t, six())
	b := made(t, tip, 3, nil)
	g := twice(1, 0, 4)
	for _, x := range []struct {
		what        string
		ahead, then func(n *node.Node)
	}{
		{"Vote", func(n *node.Node) {
			n.Take(api.Message{From: 1, Height: 1, Votes: []api.Vote{blank(1, 1, 1, 1)}})
		}, func(n *node.Node) {
			n.Take(api.Message{From: 1, Height: 1, Votes: []api.Vote{blank(1, 1, 1, 3)}})
		}},
		{"Motion", func(n *node.Node) {
			n.Take(api.Message{From: 1, Height: 1, Votes: []api.Vote{blank(1, 1, 1, 1)}})
		}, func(n *node.Node) {
			n.Take(api.Message{From: 1, Height: 1, Motions: []api.Motion{{Round: 2, From: 3, Block: b}}})
		}},
		{"Known", func(n *node.Node) {}, func(n *node.Node) {
			n.Take(api.Message{From: 1, Height: 1, Knowns: []api.Known{known(tip, b, 1, api.First)}})
		}},
		{"Tick", func(n *node.Node) {
			for range 3 {
				n.Tick()
			}
			n.Take(api.Message{From: 1, Height: 1, Votes: []api.Vote{blank(1, 0, 1, 1), blank(1, 0, 1, 3), blank(1, 0, 2, 1), blank(1, 0, 2, 3)}})
			n.Tick()
			n.Tick()
		}, (*node.Node).Tick},
	} {
		n, _ := fresh(t, 2)
		x.ahead(n)
		n.Take(api.Message{From: 1, Height: 1, Votes: []api.Vote{g.A, g.B}})
		accused(t, "U2: ahead of "+x.what, n, g)
		submit(t, n, pay(50, 0, 1), pay(3, 0, 2))
		for _, m := range n.Out() {
			if len(m.Motions) > 0 {
				t.Fatalf("U2: it moves ahead of %s", x.what)
			}
		}
		x.then(n)
		m := lastMotion(t, "U2: "+x.what, n)
		want := made(t, tip, 2, []api.Tx{pay(3, 0, 2), pay(50, 0, 1)}, g)
		if m.Round != 1 || !sameBlock(m.Block, want) {
			t.Errorf("U2: filled ahead of %s: it moves %v, not %v", x.what, m, want)
		}
	}
}

func TestFilledAheadOfBegin(t *testing.T) {
	l, tips := chain(t, 1)
	n, _ := fresh(t, 2)
	three := twice(1, 0, 3)
	n.Take(api.Message{From: 1, Height: 1, Votes: []api.Vote{three.A, three.B}})
	n.Take(api.Message{From: 1, Height: 1, Knowns: l})
	submit(t, n, pay(50, 1, 1), pay(1, 0, 2), pay(50, 3, 9), pay(4, 1, 9))
	n.Tick()
	want := made(t, tips[1], 2, []api.Tx{pay(1, 0, 2), pay(50, 1, 1)}, three)
	if m := lastMotion(t, "U3: a court begins", n); !sameBlock(m.Block, want) {
		t.Errorf("U2, U3: filled ahead of Begin, by the Nonces behind the last final block: it moves %v, not %v", m.Block, want)
	}
}

func TestFilledWithTheGasOfTheGenesis(t *testing.T) {
	// Only where Pick knows of the gas it comes, behind what has no room, to the cheap ones.
	g := six()
	g.Starts = nil
	for who := range 16 {
		g.Starts = append(g.Starts, api.Start{Who: who + 1, Balance: 9000})
	}
	g.Starts[0].Bond = 1
	n := risen(t, g, 1, wal.New())
	for who := range 15 {
		big := pay(who+1, 0, 3)
		big.Limit = 700
		submit(t, n, big)
	}
	submit(t, n, pay(16, 0, 1), pay(16, 1, 2), pay(16, 2, 1))
	n.Tick()
	k, _ := n.Final(2)
	if len(k.Block.Txs) != 4 || k.Block.Txs[0].From != 1 || k.Block.Txs[3].Nonce != 2 {
		t.Errorf("U2: filled with the gas of the genesis: %v", k.Block.Txs)
	}
}

func TestFilledWithMaxTxs(t *testing.T) {
	// One of the first sixteen can't be applied: the seventeenth does not come in its place.
	n := risen(t, lone(), 1, wal.New())
	poor := pay(1, 0, 9)
	poor.Amount = 501
	submit(t, n, poor)
	for i := range 16 {
		submit(t, n, pay(50, i, 1))
	}
	n.Tick()
	k, _ := n.Final(2)
	if len(k.Block.Txs) != api.MaxTxs-1 || k.Block.Txs[14].Nonce != 14 {
		t.Errorf("U2: filled with %d at most: %v", api.MaxTxs, k.Block.Txs)
	}
	waits(t, "U2: what did not come in waits", n, poor, pay(50, 15, 1))
}
