package node_test

import (
	"math"
	"slices"
	"testing"

	"assize/api"
	"assize/wal"
)

func change(t api.Tx, how func(t *api.Tx)) api.Tx {
	how(&t)
	return t
}

func TestSubmit(t *testing.T) {
	for _, x := range []struct {
		what string
		t    api.Tx
		want api.Errno
	}{
		{"an ordinary one", pay(50, 0, 1), api.OK},
		{"one that waits for others", pay(50, 15, 1), api.OK},
		{"one that is too far", pay(50, 16, 1), api.ErrNonce},
		{"nobody's", pay(0, 0, 1), api.ErrForm},
		{"a kind that is none", change(pay(50, 0, 1), func(t *api.Tx) { t.Kind = 11 }), api.ErrForm},
		{"a limit that may not be", change(pay(50, 0, 1), func(t *api.Tx) { t.Limit = top + 1 }), api.ErrLimit},
		{"a limit below 0", change(pay(50, 0, 1), func(t *api.Tx) { t.Limit = -1 }), api.ErrLimit},
		{"no form, and too much gas", change(pay(0, 0, 1), func(t *api.Tx) { t.Limit = top }), api.ErrForm},
		{"the greatest limit", change(pay(50, 0, 0), func(t *api.Tx) { t.Limit = api.MaxGas }), api.OK},
		{"a limit above it", change(pay(50, 0, 0), func(t *api.Tx) { t.Limit = api.MaxGas + 1 }), api.ErrGas},
		{"too much gas, and too little money", change(pay(50, 0, 9), func(t *api.Tx) { t.Limit = top }), api.ErrGas},
		{"all money", change(pay(50, 0, 90), func(t *api.Tx) { t.Limit = 100 }), api.OK},
		{"more than all money", change(pay(50, 0, 9001), func(t *api.Tx) { t.Limit = 1 }), api.ErrFunds},
		{"the greatest price", change(pay(50, 0, top), func(t *api.Tx) { t.Limit = api.MaxGas }), api.ErrFunds},
		{"too little money, and too far", change(pay(50, 99, 9001), func(t *api.Tx) { t.Limit = 1 }), api.ErrFunds},
		{"one who has nothing", pay(77, 0, 1), api.ErrFunds},
		{"one who has nothing, for nothing", pay(77, 0, 0), api.OK},
		{"an amount that nobody has", change(pay(50, 0, 1), func(t *api.Tx) { t.Amount = top }), api.OK},
		{"too little gas", change(pay(50, 0, 1), func(t *api.Tx) { t.Limit = 0 }), api.OK},
	} {
		n, _ := fresh(t, 2)
		if e := n.Submit(x.t); e != x.want {
			t.Errorf("U3: Submit, %s: %d, not %d", x.what, e, x.want)
		}
		if got := n.Waiting(); (len(got) == 1) != (x.want == api.OK) {
			t.Errorf("U3: Submit, %s: %v wait", x.what, got)
		}
		sent(t, "U3: Submit sends nothing", n)
		at(t, "U3: Submit", n, 0, 0, 0)
	}
}

func TestSubmitSaysWhatThePoolSays(t *testing.T) {
	n, _ := fresh(t, 2)
	submit(t, n, pay(50, 0, 10))
	for _, x := range []struct {
		t    api.Tx
		want api.Errno
	}{{pay(50, 0, 10), api.ErrSaid}, {pay(50, 0, 9), api.ErrPrice}, {pay(50, 0, 11), api.OK}} {
		if e := n.Submit(x.t); e != x.want {
			t.Errorf("U3: Submit(%v): %d, not %d", x.t, e, x.want)
		}
	}
	waits(t, "U3: it takes the place of the old one", n, pay(50, 0, 11))
}

func TestRoomFor64(t *testing.T) {
	n, _ := fresh(t, 2)
	for i := range 64 {
		submit(t, n, pay([]int{1, 2, 3, 50}[i/16], i%16, 2))
	}
	if e := n.Submit(pay(4, 0, 2)); e != api.ErrFull {
		t.Errorf("U1: 64 wait, and one more: %d", e)
	}
	submit(t, n, pay(4, 0, 3))
	l := n.Waiting()
	if len(l) != 64 || slices.ContainsFunc(l, func(t api.Tx) bool { return t.From == 50 && t.Nonce == 15 }) {
		t.Errorf("U1: there is room for %d", len(l))
	}
	n.Tick()
	m := n.Out()[0]
	if len(m.Txs) != api.MaxTxs || m.Txs[0].From != 1 || m.Txs[15].Nonce != 15 {
		t.Errorf("U3: of many that wait %v go out", m.Txs)
	}
}

func TestTickTellsWhatWaits(t *testing.T) {
	n, _ := fresh(t, 2)
	var all []api.Tx
	for i := range 16 {
		all = append(all, pay(50, i, 1))
	}
	slices.Reverse(all)
	submit(t, n, all...)
	submit(t, n, pay(3, 1, 0))
	slices.Reverse(all)
	n.Tick()
	sent(t, "U3: the first sixteen that wait", n, api.Message{From: 2, Height: 1, Txs: append([]api.Tx{pay(3, 1, 0)}, all[:15]...)})
	n.Tick()
	if l := n.Out(); len(l) != 1 || len(l[0].Txs) != 16 {
		t.Errorf("U3: they go out with each Tick: %v", l)
	}
}

func TestTickTellsWhatTheCourtSays(t *testing.T) {
	tip := tipOf(t, six())
	b := made(t, tip, 1, nil)
	k := known(tip, b, 0, api.First)
	n, _ := fresh(t, 2)
	n.Take(api.Message{From: 1, Height: 1, Motions: []api.Motion{{From: 1, Block: b}}, Votes: []api.Vote{
		ballot(tip, b, 0, api.First, 1), ballot(tip, b, 0, api.First, 3),
	}})
	n.Out()
	n.Tick()
	var votes []api.Vote
	votes = append(votes, ballot(tip, b, 0, api.Moves, 1))
	for who := range 3 {
		votes = append(votes, ballot(tip, b, 0, api.First, who+1))
	}
	votes = append(votes, ballot(tip, b, 0, api.Second, 2))
	sent(t, "U3: what the court says", n, api.Message{
		From: 2, Height: 1, Votes: votes, Motions: []api.Motion{{From: 1, Block: b}}, Knowns: []api.Known{k},
	})
}

func TestTickThatDecides(t *testing.T) {
	n := risen(t, lone(), 1, wal.New())
	n.Out()
	submit(t, n, pay(50, 0, 1), pay(50, 2, 1))
	n.Tick()
	l := n.Out()
	at(t, "U3: a Tick that decides", n, 2, -1, 0)
	k, _ := n.Final(2)
	if len(l) != 2 || l[0].Height != 2 || len(l[0].Knowns) != 1 || !sameKnown(l[0].Knowns[0], k) || len(k.Block.Txs) != 1 {
		t.Fatalf("U2: a Tick that decides: %v", l)
	}
	n.Out()
	want := api.Message{From: 1, Height: 3, Txs: []api.Tx{pay(50, 2, 1)}}
	if got := l[1]; !sameMessage(got, want) {
		t.Errorf("U3: without a court nothing but the next height, and what waits: %v, not %v", got, want)
	}
}

func TestTakeRefuses(t *testing.T) {
	tip := tipOf(t, six())
	k := known(tip, made(t, tip, 1, nil), 0, api.Second)
	for _, x := range []struct {
		what string
		how  func(m *api.Message)
	}{
		{"from nobody", func(m *api.Message) { m.From = 0 }},
		{"from one below 0", func(m *api.Message) { m.From = -1 }},
		{"a height below 0", func(m *api.Message) { m.Height = -1 }},
		{"a height that may not be", func(m *api.Message) { m.Height = math.MaxInt }},
		{"to one that may not be", func(m *api.Message) { m.To = top + 1 }},
		{"a vote that may not be", func(m *api.Message) { m.Votes = []api.Vote{{}} }},
		{"too many knowns", func(m *api.Message) { m.Knowns = []api.Known{k, k, k} }},
		{"a transaction that may not be", func(m *api.Message) { m.Txs = append(m.Txs, api.Tx{}) }},
		{"too many transactions", func(m *api.Message) { m.Txs = make([]api.Tx, api.MaxTxs+1) }},
	} {
		n, _ := fresh(t, 2)
		m := api.Message{From: 3, Height: 1, Knowns: []api.Known{k}, Txs: []api.Tx{pay(50, 0, 1)}}
		x.how(&m)
		n.Take(m)
		at(t, "U4: "+x.what, n, 0, 0, 0)
		waits(t, "U4: "+x.what, n)
		sent(t, "U4: "+x.what, n)
	}
}

func TestTakeSubmits(t *testing.T) {
	n, _ := fresh(t, 2)
	txs := []api.Tx{pay(50, 1, 1), pay(77, 0, 1), pay(50, 99, 1), pay(50, 0, 1), pay(50, 0, 1), change(pay(50, 2, 0), func(t *api.Tx) { t.Limit = top }), pay(3, 0, 1)}
	n.Take(api.Message{From: 9, To: 7, Height: 5, Txs: txs})
	waits(t, "U4: its transactions are submitted", n, pay(3, 0, 1), pay(50, 0, 1), pay(50, 1, 1))
	sent(t, "U4: its transactions are submitted", n)
}

func TestTakeOfAHeightThatIsFinal(t *testing.T) {
	l, _ := chain(t, 2)
	n := risen(t, six(), 2, logOf(t, closed(l[0]), closed(l[1])))
	n.Out()
	first := known(tipOf(t, six()), l[0].Block, 0, api.First)
	g := twice(3, 0, 4)
	for _, x := range []struct {
		what string
		m    api.Message
		want []api.Message
	}{
		{"the first one", api.Message{From: 3, Height: 1}, []api.Message{{From: 2, To: 3, Height: 1, Knowns: l[:1]}}},
		{"the last one", api.Message{From: 3, Height: 2}, []api.Message{{From: 2, To: 3, Height: 2, Knowns: l[1:]}}},
		{"from one who has no seat", api.Message{From: 77, To: 5, Height: 2}, []api.Message{{From: 2, To: 77, Height: 2, Knowns: l[1:]}}},
		{"from itself", api.Message{From: 2, Height: 2}, nil},
		{"with a block that was decided", api.Message{From: 3, Height: 2, Knowns: l[1:]}, nil},
		{"with one that was decided, of another height", api.Message{From: 3, Height: 2, Knowns: l[:1]}, nil},
		{"with one that was decided behind another", api.Message{From: 3, Height: 1, Knowns: []api.Known{first, l[0]}}, nil},
		{"with one that was not", api.Message{From: 3, Height: 1, Knowns: []api.Known{first}}, []api.Message{{From: 2, To: 3, Height: 1, Knowns: l[:1]}}},
		{"with what the court could hear", api.Message{From: 3, Height: 1, Votes: []api.Vote{g.A, g.B}}, []api.Message{{From: 2, To: 3, Height: 1, Knowns: l[:1]}}},
		{"height 0", api.Message{From: 3}, nil},
		{"the next height", api.Message{From: 3, Height: 3}, nil},
		{"a height that is far", api.Message{From: 3, Height: top}, nil},
	} {
		n.Take(x.m)
		sent(t, "U4: a height that is final: "+x.what, n, x.want...)
		accused(t, "U4: nothing else: "+x.what, n)
		at(t, "U4: nothing else: "+x.what, n, 2, 0, 0)
	}
	n.Take(api.Message{From: 2, Height: 1, Txs: []api.Tx{pay(50, 2, 1)}})
	waits(t, "U4: transactions are submitted, of whatever height the message is", n, pay(50, 2, 1))
}

func TestTheCourtHearsWhateverTheHeightSays(t *testing.T) {
	tip := tipOf(t, six())
	k := known(tip, made(t, tip, 1, nil), 0, api.Second)
	for _, height := range []int{0, 1, 2, top} {
		n, _ := fresh(t, 2)
		n.Take(api.Message{From: 3, To: 4, Height: height, Knowns: []api.Known{k}})
		at(t, "U4: of a height that is not final", n, 1, -1, 0)
	}
}

func TestKnownsThenMotionsThenVotes(t *testing.T) {
	tip := tipOf(t, six())
	b, c := made(t, tip, 1, nil), made(t, tip, 1, []api.Tx{pay(50, 0, 1)})
	name := ballot(tip, b, 0, api.First, 2)
	// The motion comes ahead of the votes: so it votes for the motion, and holds on to the block behind that.
	n, log := fresh(t, 2)
	n.Take(api.Message{From: 1, Height: 1, Motions: []api.Motion{{From: 1, Block: b}}, Votes: []api.Vote{
		ballot(tip, b, 0, api.First, 1), ballot(tip, b, 0, api.First, 3), ballot(tip, b, 0, api.First, 4),
	}})
	recorded(t, "U4: motions ahead of votes", log, voted(name), locked(known(tip, b, 0, api.First)), voted(ballot(tip, b, 0, api.Second, 2)))
	// The known comes ahead of the motion: so it holds on to its block, and has not voted at First.
	n, log = fresh(t, 2)
	k := known(tip, b, 0, api.First)
	n.Take(api.Message{From: 1, Height: 1, Knowns: []api.Known{k}, Motions: []api.Motion{{From: 1, Block: b}}})
	recorded(t, "U4: knowns ahead of motions", log, locked(k), voted(ballot(tip, b, 0, api.Second, 2)))
	// It ends with the first of two that were decided; what comes behind is not heard.
	n, log = fresh(t, 2)
	one, two := known(tip, c, 0, api.Second), known(tip, b, 0, api.Second)
	n.Take(api.Message{From: 1, Height: 1, Knowns: []api.Known{one, two}, Motions: []api.Motion{{From: 1, Block: b}}, Votes: []api.Vote{blank(1, 0, 1, 1)}})
	recorded(t, "U4: it may end between", log, closed(one))
	at(t, "U4: it may end between", n, 1, -1, 0)
}

func TestEachAnswerIsSentByItself(t *testing.T) {
	tip := tipOf(t, six())
	b := made(t, tip, 1, nil)
	n, _ := fresh(t, 3)
	n.Take(api.Message{From: 1, Height: 1, Motions: []api.Motion{{From: 1, Block: b}}, Votes: []api.Vote{
		ballot(tip, b, 0, api.First, 1), ballot(tip, b, 0, api.First, 2), ballot(tip, b, 0, api.Second, 1), ballot(tip, b, 0, api.Second, 2),
	}})
	sent(t, "U2, U4: a message for each answer", n,
		api.Message{From: 3, Height: 1, Votes: []api.Vote{ballot(tip, b, 0, api.First, 3)}},
		api.Message{From: 3, Height: 1, Votes: []api.Vote{ballot(tip, b, 0, api.Second, 3)}},
		api.Message{From: 3, Height: 1, Knowns: []api.Known{known(tip, b, 0, api.Second)}})
	at(t, "U2, U4: decided by votes", n, 1, -1, 0)
}

func TestGuilts(t *testing.T) {
	tip := tipOf(t, six())
	n, _ := fresh(t, 2)
	four, again, three := twice(1, 0, 4), twice(1, 1, 4), twice(1, 0, 3)
	n.Take(api.Message{From: 4, Height: 1, Votes: []api.Vote{four.A, four.A}})
	accused(t, "U4: one who says the same twice", n)
	n.Take(api.Message{From: 4, Height: 1, Votes: []api.Vote{four.B}})
	accused(t, "U4: one who votes twice", n, four)
	n.Take(api.Message{From: 4, Height: 1, Votes: []api.Vote{again.A, again.B, four.B}})
	accused(t, "U4: of one voter one is enough", n, four)
	n.Take(api.Message{From: 4, Height: 1, Votes: []api.Vote{three.A, three.B, twice(1, 0, 9).A, twice(1, 0, 9).B}})
	accused(t, "U4: of another voter another one; of one without a seat none", n, four, three)
	one := api.Motion{From: 1, Block: made(t, tip, 1, nil)}
	other := api.Motion{From: 1, Block: made(t, tip, 1, []api.Tx{pay(50, 0, 1)})}
	n.Take(api.Message{From: 1, Height: 1, Motions: []api.Motion{one, other}})
	moves := api.Guilt{A: ballot(tip, one.Block, 0, api.Moves, 1), B: ballot(tip, other.Block, 0, api.Moves, 1)}
	accused(t, "U4: one who moves twice", n, four, three, moves)
}

func TestAKnownProvesNothing(t *testing.T) {
	tip := tipOf(t, six())
	n, _ := fresh(t, 4)
	b := made(t, tip, 1, nil)
	n.Take(api.Message{From: 1, Height: 1, Votes: []api.Vote{blank(1, 0, 1, 1)}})
	n.Take(api.Message{From: 1, Height: 1, Knowns: []api.Known{known(tip, b, 0, api.First)}})
	accused(t, "U4: what a known proves", n)
}

func TestAMotionThatProvesAndDecides(t *testing.T) {
	tip := tipOf(t, six())
	one, other := made(t, tip, 1, nil), made(t, tip, 1, []api.Tx{pay(50, 0, 1)})
	// The other block was decided ahead of being known.
	play := func(self, acts int) []api.Guilt {
		n, log := fresh(t, self)
		n.Take(api.Message{From: 1, Height: 1, Motions: []api.Motion{{From: 1, Block: one}}, Votes: []api.Vote{
			ballot(tip, other, 0, api.Second, 1), ballot(tip, other, 0, api.Second, 3), ballot(tip, other, 0, api.Second, 4),
		}})
		at(t, "the block is not known", n, 0, 0, 1)
		log.Arm(acts, 0)
		n.Take(api.Message{From: 1, Height: 1, Motions: []api.Motion{{From: 1, Block: other}}})
		if n.Down() != (acts > 0) {
			t.Errorf("U2: it is down: %v", n.Down())
		}
		return n.Guilts()
	}
	g := api.Guilt{A: ballot(tip, one, 0, api.Moves, 1), B: ballot(tip, other, 0, api.Moves, 1)}
	if l := play(2, 0); !slices.Equal(l, []api.Guilt{g}) {
		t.Errorf("U4: a motion that proves and decides: %v, not %v", l, g)
	}
	if l := play(2, 1); len(l) > 0 {
		t.Errorf("U2, U4: it is down, and accuses: %v", l)
	}
}
