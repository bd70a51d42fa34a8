package world_test

import (
	"fmt"
	"slices"
	"testing"

	"assize/api"
	"assize/light"
	"assize/world"
)

// twoLedgers is the ledger six with a peer.
func twoLedgers() api.Genesis {
	g := six()
	g.Peers = []api.View{{Chain: 2, Width: 8, Epoch: 3, Seats: []api.Seat{{Who: 7, Weight: 1}}}}
	return g
}

func TestNothingIsKeptOfAGenesis(t *testing.T) {
	g, liars := twoLedgers(), []int{4}
	w := begun(t, g, liars...)
	own, ok := world.New(g, liars)
	if ok != api.OK {
		t.Fatal(ok)
	}
	g.Starts[0] = api.Start{Who: 9, Bond: 9}
	g.Peers[0].Seats[0].Weight = 77
	g.Peers[0].Chain = 99
	liars[0] = 1
	says(t, "P2: the liar", own.Lie(api.Message{From: 4}), api.OK)
	says(t, "P2: no liar", own.Lie(api.Message{From: 1}), api.ErrSeat)
	for _, x := range []*world.World{w, own} {
		x.Calm(2)
		x.Stop(2, 0, 0)
		x.Begin(2)
		n := up(t, x, 2)
		begins, _ := n.Tip(0)
		if height, _, _ := n.Height(); height != 2 || begins.Header() != tipOf(t, twoLedgers()).Header() {
			t.Errorf("P2: it begins anew with another genesis, at %d", height)
		}
		if !slices.Equal(x.Who(), []int{1, 2, 3, 4}) {
			t.Errorf("P2: the nodes are %v", x.Who())
		}
	}
}

func TestNothingIsKeptOfAMessage(t *testing.T) {
	w := begun(t, six(), 4)
	dropAll(w)
	tx := api.Tx{Kind: api.Call, From: 4, Limit: 16, To: 60, Text: "f", Args: []int{1, 2}}
	m := api.Message{From: 4, Height: 1, Votes: []api.Vote{ballot(4, 0, 1)}, Txs: []api.Tx{tx},
		Motions: []api.Motion{{From: 4, Block: by([]api.Tx{tx}), Basis: []api.Cert{cert(ballot(4, 0, 1), 4)}}},
		Knowns:  []api.Known{{Cert: cert(ballot(4, 0, 2), 4), Block: by(nil, api.Guilt{A: ballot(4, 0, 1), B: ballot(4, 0, 2)})}}}
	says(t, "X5: Lie", w.Lie(m), api.OK)
	was := fmt.Sprint(way(t, w))
	scribble(m)
	if got := way(t, w); fmt.Sprint(got) != was {
		t.Errorf("P2: on its way is %v, not %v", got, was)
	}
	// What Peek answers is the caller's, each time, and for each of those to whom it goes.
	for i := range w.Way() {
		x, _ := w.Peek(i)
		scribble(x)
	}
	if got := way(t, w); fmt.Sprint(got) != was {
		t.Errorf("P2: on its way is %v, not %v", got, was)
	}
}

// scribble writes into all lists of a message.
func scribble(m api.Message) {
	m.Votes[0].From = 1
	m.Txs[0].Args[0] = 9
	m.Txs[0].Nonce = 9
	m.Motions[0].Basis[0].Froms[0] = 9
	m.Motions[0].Block.Txs[0].Args[0] = 9
	m.Motions[0].Block.Txs[0].Nonce = 9
	m.Motions[0].Round = 9
	m.Knowns[0].Cert.Froms[0] = 9
	m.Knowns[0].Block.Guilts[0].A.Round = 9
	m.Knowns[0].Cert.Round = 9
}

func TestWhatComesOfATransactionIsItsOwn(t *testing.T) {
	w := begun(t, six(), 4)
	args := []int{1, 2}
	tx := api.Tx{Kind: api.Call, From: 50, Limit: 16, To: 60, Text: "f", Args: args}
	says(t, "X2: Submit", w.Submit(1, tx), api.OK)
	args[0] = 7
	if got := up(t, w, 1).Waiting(); got[0].Args[0] != 1 {
		t.Errorf("P2: %v waits", got)
	}
	says(t, "X5: it was signed as it was", w.Lie(api.Message{From: 4, Txs: []api.Tx{tx}}), api.ErrForge)
	args[0] = 1
	says(t, "X5: it was signed as it was", w.Lie(api.Message{From: 4, Txs: []api.Tx{tx}}), api.OK)
}

func TestAnswersAreTheCallers(t *testing.T) {
	w := begun(t, six(), 4)
	w.Calm(2)
	l := w.Who()
	l[0] = 99
	if !slices.Equal(w.Who(), []int{1, 2, 3, 4}) {
		t.Errorf("P2: the nodes are %v", w.Who())
	}
	v, _ := world.View(six())
	v.Seats[0].Weight = 99
	v, _ = world.View(six())
	if v.Seats[0].Weight != 2 {
		t.Errorf("P2: View: %v", v)
	}
	for _, who := range []int{1, 9} {
		heights := []int{1, 2}
		got, _ := w.Show(who, v, heights)
		got.Seats[0].Weight = 99
		if v.Seats[0].Weight != 2 || !slices.Equal(heights, []int{1, 2}) {
			t.Errorf("P2: Show has written into %v, %v", v, heights)
		}
		got, _ = w.Show(who, v, heights)
		if got.Seats[0].Weight != 2 {
			t.Errorf("P2: Show: %v", got)
		}
	}
	none, _ := w.Show(1, v, nil)
	none.Seats[0].Weight = 99
	if v.Seats[0].Weight != 2 {
		t.Error("P2: Show of nothing answers the view that was handed in")
	}
}

func TestNothingIsWrittenIntoAMessage(t *testing.T) {
	// What goes to all is one message: that one node takes it is nothing to the others.
	w := begun(t, six(), 4)
	m := api.Message{From: 4, Height: 1, Votes: []api.Vote{ballot(4, 0, 1), ballot(4, 0, 2)}, Txs: []api.Tx{{Kind: api.Free, From: 4, Limit: 16}}}
	was := []api.Vote{ballot(4, 0, 1), ballot(4, 0, 2)}
	dropAll(w)
	says(t, "X5: Lie", w.Lie(m), api.OK)
	for w.Way() > 1 {
		last, _ := w.Peek(2)
		w.Net(api.Deliver, 0)
		if got, _ := w.Peek(1); !same(last, got) {
			t.Errorf("P2: %v is on its way, not %v", got, last)
		}
		w.Net(api.Drop, 0)
	}
	if !slices.Equal(m.Votes, was) || m.To != 0 {
		t.Errorf("P2: the message was written into: %v", m)
	}
}

func TestTheSameCallsAnswerTheSame(t *testing.T) {
	run := func() []string {
		w := begun(t, six(), 4)
		w.Submit(2, pay(0))
		w.Lie(api.Message{From: 4, Height: 1, Votes: []api.Vote{ballot(4, 0, 1), ballot(4, 0, 2)}})
		var l []string
		for i := range 60 {
			w.Tick(i % 5)
			w.Net(1+i%3, 7*i)
			for _, who := range w.Who() {
				l = append(l, look(t, w, who))
			}
			l = append(l, addressed(t, w)...)
		}
		return l
	}
	if a, b := run(), run(); !slices.Equal(a, b) {
		t.Error("P2: the same calls answer otherwise")
	}
}

func TestShowIsWhatFollowSays(t *testing.T) {
	w := begun(t, six())
	w.Calm(5)
	v, _ := world.View(six())
	var l []api.Sight
	for _, h := range []int{1, 3, 2, 5} {
		s, e := up(t, w, 3).Sight(h)
		says(t, "U5: Sight", e, api.OK)
		l = append(l, s)
	}
	want, codes := light.Follow(v, l)
	if got, gotCodes := w.Show(3, v, []int{1, 3, 2, 5}); !same(got, want) || !slices.Equal(codes, gotCodes) {
		t.Errorf("X7: Show: %v %v, not %v %v", got, gotCodes, want, codes)
	}
}
