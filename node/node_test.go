package node_test

import (
	"fmt"
	"math"
	"slices"
	"testing"

	"assize/api"
	"assize/bench"
	"assize/block"
	"assize/node"
)

func TestOutHandsOutOnce(t *testing.T) {
	n, _ := fresh(t, 2)
	sent(t, "U5: nothing went out", n)
	n.Tick()
	n.Tick()
	m := api.Message{From: 2, Height: 1}
	sent(t, "U5: what went out since, in order", n, m, m)
	sent(t, "U5: once", n)
}

func TestHeightsThatAreNot(t *testing.T) {
	l, tips := chain(t, 2)
	n := risen(t, six(), 2, logOf(t, closed(l[0]), closed(l[1])))
	for _, h := range []int{math.MinInt, -1, 0, 3, 4, top, math.MaxInt} {
		if k, e := n.Final(h); e != api.ErrHeight || !sameKnown(k, api.Known{}) {
			t.Errorf("U5: Final(%d): %v %d", h, k, e)
		}
		if s, e := n.Sight(h); e != api.ErrHeight || fmt.Sprint(s) != fmt.Sprint(api.Sight{}) {
			t.Errorf("U5: Sight(%d): %v %d", h, s, e)
		}
		if tip, e := n.Tip(h); h != 0 && (e != api.ErrHeight || tip != block.Tip{}) {
			t.Errorf("U5: Tip(%d): %v %d", h, tip.Header(), e)
		}
	}
	shown(t, "U5", n, l, tips)
}

func TestSight(t *testing.T) {
	// In the epoch behind the second height there is one seat more.
	tip := tipOf(t, six())
	bond := api.Tx{Kind: api.Bond, From: 50, Limit: 16, Amount: 5}
	one := known(tip, made(t, tip, 1, []api.Tx{bond}), 0, api.Second)
	next := behind(t, tip, one.Block)
	two := known(next, made(t, next, 2, nil), 1, api.Second)
	last := behind(t, next, two.Block)
	n := risen(t, six(), 2, logOf(t, closed(one), closed(two)))
	tips := []block.Tip{next, last}
	for i, k := range []api.Known{one, two} {
		s, e := n.Sight(i + 1)
		want := api.Sight{Header: k.Block.Header, Cert: k.Cert, Seats: tips[i].Bench()}
		if e != api.OK || fmt.Sprint(s) != fmt.Sprint(want) {
			t.Errorf("U5: Sight(%d): %v %d, not %v", i+1, s, e, want)
		}
	}
	s, _ := n.Sight(2)
	if !bench.Has(s.Seats, 50) || bench.Digest(8, s.Seats) != s.Header.Bench {
		t.Errorf("U5: the seats behind the last height of an epoch are %v", s.Seats)
	}
}

// shows is all that a node answers without being changed.
func shows(n *node.Node) string {
	h, r, s := n.Height()
	text := fmt.Sprint(h, r, s, n.Down(), n.Guilts(), n.Waiting())
	for i := range h + 1 {
		k, _ := n.Final(i)
		tip, _ := n.Tip(i)
		sight, _ := n.Sight(i)
		text += fmt.Sprint(k, tip.Header(), tip.Tree().Root(), sight)
	}
	return text
}

func TestWhatComesOutIsFresh(t *testing.T) {
	l, _ := chain(t, 1)
	n := risen(t, six(), 2, logOf(t, closed(l[0])))
	g := twice(2, 0, 4)
	n.Take(api.Message{From: 1, Height: 2, Votes: []api.Vote{g.A, g.B}})
	submit(t, n, api.Tx{Kind: api.Call, From: 50, Nonce: 1, Limit: 99, To: api.Contracts + 1, Text: "f", Args: []int{1, 2}})
	want := shows(n)
	k, _ := n.Final(1)
	k.Block.Txs[0].Amount, k.Cert.Froms[0] = 9, 9
	s, _ := n.Sight(1)
	s.Seats[0].Weight, s.Cert.Froms[0] = 9, 9
	n.Guilts()[0] = api.Guilt{}
	w := n.Waiting()
	w[0].Args[0] = 9
	w[0] = api.Tx{}
	for range 2 {
		n.Take(api.Message{From: 3, Height: 1})
		for _, m := range n.Out() {
			for _, k := range m.Knowns {
				k.Block.Txs[0].Amount, k.Cert.Froms[0] = 9, 9
			}
		}
	}
	if got := shows(n); got != want {
		t.Errorf("P2: what was handed out and written into changes a node: %s, not %s", got, want)
	}
	n.Take(api.Message{From: 3, Height: 1})
	sent(t, "P2: what was handed out and written into", n, api.Message{From: 2, To: 3, Height: 1, Knowns: l})
}

func TestMessagesShareNothing(t *testing.T) {
	n, _ := fresh(t, 2)
	tip := tipOf(t, six())
	b := made(t, tip, 1, []api.Tx{pay(50, 0, 1)})
	n.Take(api.Message{From: 1, Height: 1, Motions: []api.Motion{{From: 1, Block: b}}})
	n.Tick()
	n.Tick()
	l := n.Out()
	if len(l) != 3 || len(l[1].Motions) != 1 || len(l[2].Motions) != 1 {
		t.Fatalf("it sends %v", l)
	}
	want := fmt.Sprint(l[2])
	l[1].Motions[0].Block.Txs[0].Amount = 9
	l[1].Votes[0] = api.Vote{}
	if got := fmt.Sprint(l[2]); got != want {
		t.Errorf("P2: two messages share what they have: %s, not %s", got, want)
	}
	n.Tick()
	if got := fmt.Sprint(n.Out()[0]); got != want {
		t.Errorf("P2: a message that was written into changes the next one: %s, not %s", got, want)
	}
}

func TestWhatComesInIsNotKept(t *testing.T) {
	tip := tipOf(t, six())
	g := six()
	n := risen(t, g, 2, logOf(t))
	g.Gas = 0
	g.Starts[0] = api.Start{Who: 9, Bond: 9}
	k := known(tip, made(t, tip, 1, []api.Tx{pay(50, 0, 1)}), 0, api.Second)
	held := known(tip, made(t, tip, 1, []api.Tx{pay(50, 0, 1)}), 0, api.First)
	call := api.Tx{Kind: api.Call, From: 50, Nonce: 1, Limit: 99, To: api.Contracts + 1, Text: "f", Args: []int{1, 2}}
	m := api.Message{From: 1, Height: 1, Knowns: []api.Known{held, k}, Txs: []api.Tx{call}}
	before := fmt.Sprint(m)
	n.Take(m)
	if got := fmt.Sprint(m); got != before {
		t.Errorf("P2: Take writes into a message: %s, not %s", got, before)
	}
	want := shows(n)
	sentOut := fmt.Sprint(n.Out())
	k.Block.Txs[0].Amount, k.Cert.Froms[0], held.Cert.Froms[0] = 9, 9, 9
	call.Args[0] = 9
	if got := shows(n); got != want {
		t.Errorf("P2: a node keeps what it was handed: %s, not %s", got, want)
	}
	o := risen(t, six(), 2, logOf(t))
	call.Args[0] = 1
	k.Block.Txs[0].Amount, k.Cert.Froms[0], held.Cert.Froms[0] = 1, 1, 1
	o.Take(m)
	l := o.Out()
	k.Block.Txs[0].Amount, k.Cert.Froms[0], held.Cert.Froms[0] = 9, 9, 9
	if got := fmt.Sprint(l); got != sentOut {
		t.Errorf("P2: what goes out shares what came in: %s, not %s", got, sentOut)
	}
}

func TestWhereACourtIs(t *testing.T) {
	n, _ := fresh(t, 2)
	for i, want := range [][3]int{{0, 0, 0}, {0, 0, 0}, {0, 0, 0}, {0, 0, 1}, {0, 0, 1}} {
		if h, r, s := n.Height(); [3]int{h, r, s} != want {
			t.Errorf("U5: behind %d ticks it is at %d %d %d, not at %v", i, h, r, s, want)
		}
		n.Tick()
	}
	n.Take(api.Message{From: 1, Height: 1, Votes: []api.Vote{blank(1, 7, 1, 1), blank(1, 7, 2, 3)}})
	at(t, "U5: the round 7", n, 0, 7, 0)
}

func TestAnswersHangOnTheCallsAlone(t *testing.T) {
	play := func() string {
		n, log := fresh(t, 2)
		for i := range 40 {
			n.Submit(pay([]int{50, 3, 1}[i%3], i/3, i%5))
			n.Tick()
			if i%7 == 0 {
				n.Take(api.Message{From: 1, Height: 1, Votes: []api.Vote{blank(1, i/7, 1, 1), blank(1, i/7, 1, 3), blank(1, i/7, 2, 1), blank(1, i/7, 2, 3)}})
			}
		}
		s, _ := log.Bytes()
		return shows(n) + fmt.Sprint(n.Out()) + s
	}
	if l := slices.Compact([]string{play(), play(), play()}); len(l) != 1 {
		t.Errorf("P2: the same calls are answered unlike: %q", l)
	}
}
