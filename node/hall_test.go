package node_test

import (
	"fmt"
	"slices"
	"testing"

	"assize/api"
	"assize/block"
	"assize/light"
	"assize/node"
	"assize/wal"
)

// hall has nodes, and a net between them.
type hall struct {
	t     *testing.T
	g     api.Genesis
	who   []int
	nodes map[int]*node.Node // those that are up
	logs  map[int]*wal.Log
	net   []letter
	heard func(from int, m api.Message) // is told of all that a node sends
}

type letter struct {
	to int
	m  api.Message
}

func newHall(t *testing.T, g api.Genesis, who ...int) *hall {
	h := &hall{t: t, g: g, who: who, nodes: map[int]*node.Node{}, logs: map[int]*wal.Log{}, heard: func(int, api.Message) {}}
	for _, x := range who {
		h.logs[x] = wal.New()
	}
	return h
}

// session is that of the document's examples, with its nodes.
func session(t *testing.T) *hall {
	h := newHall(t, six(), 1, 2, 3, 4)
	for _, who := range h.who {
		h.rise(who)
	}
	return h
}

func (h *hall) rise(who int) {
	h.nodes[who] = risen(h.t, h.g, who, h.logs[who])
	h.post(who)
}

// post puts what a node sent on its way.
func (h *hall) post(who int) {
	for _, m := range h.nodes[who].Out() {
		h.heard(who, m)
		h.send(m)
	}
	if h.nodes[who].Down() {
		delete(h.nodes, who)
	}
}

func (h *hall) send(m api.Message) {
	for _, to := range h.who {
		if to != m.From && (m.To == 0 || m.To == to) {
			h.net = append(h.net, letter{to, m})
		}
	}
}

func (h *hall) tick(who int) {
	if n := h.nodes[who]; n != nil {
		n.Tick()
		h.post(who)
	}
}

func (h *hall) take(l letter) {
	if n := h.nodes[l.to]; n != nil {
		n.Take(l.m)
		h.post(l.to)
	}
}

func (h *hall) calm(times int) {
	for range times {
		for _, who := range h.who {
			h.tick(who)
		}
		for i := 0; len(h.net) > 0; i++ {
			if i > 20000 {
				h.t.Fatalf("they do not come to an end: the last message is %v", h.net[0].m)
			}
			l := h.net[0]
			h.net = h.net[1:]
			h.take(l)
		}
	}
}

// look is what the document's sessions tell of a node.
func (h *hall) look(who int) string {
	n := h.nodes[who]
	height, round, step := n.Height()
	s := fmt.Sprintf("node %d height %d round %d step %d waiting %d guilts %d", who, height, round, step, len(n.Waiting()), len(n.Guilts()))
	for i := range height {
		k, _ := n.Final(i + 1)
		tip, _ := n.Tip(i)
		s += fmt.Sprintf(", %d %016x %d", i+1, uint64(tip.Name(k.Block.Header)), len(k.Block.Txs))
	}
	return s
}

func (h *hall) looks(who int, want string) {
	h.t.Helper()
	if got := h.look(who); got != want {
		h.t.Errorf("U1 to U5: %s; not %s", got, want)
	}
}

// account is one by the last tip of a node.
func (h *hall) account(who, of int) api.Account {
	height, _, _ := h.nodes[who].Height()
	tip, _ := h.nodes[who].Tip(height)
	return account(tip, of)
}

func TestSession7(t *testing.T) {
	h := session(t)
	if len(h.net) != 3 {
		t.Errorf("U1: at the beginning %d are on their way", len(h.net))
	}
	h.looks(1, "node 1 height 0 round 0 step 1 waiting 0 guilts 0")
}

func TestSession8(t *testing.T) {
	h := session(t)
	submit(t, h.nodes[2], api.Tx{Kind: api.Pay, From: 50, Price: 3, Limit: 16, To: 60, Amount: 25})
	h.calm(3)
	for _, who := range h.who {
		h.looks(who, fmt.Sprintf("node %d height 3 round -1 step 0 waiting 0 guilts 0, 1 aeefb404b013c5f1 0, 2 f952e1ee8fcd6a09 1, 3 fade83d694af1ada 0", who))
		if got, want := h.account(who, 50), (api.Account{Balance: 8927, Nonce: 1}); got != want {
			t.Errorf("U2: 50 has %v, not %v", got, want)
		}
	}
}

func TestSession9(t *testing.T) {
	h := session(t)
	g := twice(1, 0, 4)
	h.send(api.Message{From: 4, Height: 1, Votes: []api.Vote{g.A, g.B}})
	h.calm(6)
	if got, want := h.account(1, 4), (api.Account{Balance: 500, Jailed: true}); got != want {
		t.Errorf("U2, U4: who lied has %v, not %v", got, want)
	}
	if got := h.account(1, api.Pot); got.Balance != 1 {
		t.Errorf("U2, U4: the pot has %v", got)
	}
	for _, who := range h.who {
		accused(t, "U2: who is jailed", h.nodes[who])
	}
}

func TestSession10(t *testing.T) {
	h := session(t)
	h.logs[2].Die(0)
	delete(h.nodes, 2)
	h.calm(2)
	h.rise(2)
	h.looks(2, "node 2 height 0 round 0 step 0 waiting 0 guilts 0")
	h.calm(1)
	h.looks(2, "node 2 height 1 round -1 step 0 waiting 0 guilts 0, 1 aeefb404b013c5f1 0")
}

func TestSightsAreBelieved(t *testing.T) {
	h := session(t)
	h.calm(3)
	tip := tipOf(t, six())
	v := api.View{Chain: 1, Width: 8, Epoch: 2, State: tip.Header().State, Seats: tip.Bench()}
	for _, x := range []struct {
		heights []int
		height  int
		codes   []api.Errno
	}{
		{[]int{1, 2, 3, 4}, 3, []api.Errno{api.OK, api.OK, api.OK}},
		{[]int{1, 4}, 1, []api.Errno{api.OK}},
	} {
		var l []api.Sight
		for _, height := range x.heights {
			if s, e := h.nodes[1].Sight(height); e == api.OK {
				l = append(l, s)
			}
		}
		got, codes := light.Follow(v, l)
		if got.Height != x.height || !slices.Equal(codes, x.codes) {
			t.Errorf("U5: by the sights of %v it believes %v, by %v", x.heights, got, codes)
		}
	}
}

func TestAllDieAndRiseAgain(t *testing.T) {
	h := session(t)
	submit(t, h.nodes[2], pay(50, 0, 1))
	h.calm(3)
	want := map[int]string{}
	for _, who := range h.who {
		want[who] = h.look(who)[len("node 1 height 3 round -1 step 0"):]
		h.logs[who].Die(0)
	}
	h.net = nil
	for _, who := range h.who {
		h.rise(who)
		height, round, _ := h.nodes[who].Height()
		if got := h.look(who)[len("node 1 height 3 round -1 step 0")-1:]; height != 3 || round != 0 || got != want[who] {
			t.Errorf("U1: behind a fall: %s, not %s", h.look(who), want[who])
		}
	}
	h.calm(2)
	for _, who := range h.who {
		if height, _, _ := h.nodes[who].Height(); height != 5 {
			t.Errorf("U1: behind a fall it does not go on: %s", h.look(who))
		}
	}
}

func TestOneWhoLooksOnFollows(t *testing.T) {
	h := session(t)
	h.calm(4)
	h.who = append(h.who, 50)
	h.logs[50] = wal.New()
	h.rise(50)
	h.looks(50, "node 50 height 0 round 0 step 0 waiting 0 guilts 0")
	h.calm(6)
	var l []api.Known
	tips := []block.Tip{tipOf(t, six())}
	for i := range 6 {
		k, _ := h.nodes[1].Final(i + 1)
		l, tips = append(l, k), append(tips, behind(t, tips[i], k.Block))
	}
	shown(t, "U4: one who looks on is told a block with each Tick", h.nodes[50], l, tips)
}
