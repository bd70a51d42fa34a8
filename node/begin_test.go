package node_test

import (
	"math"
	"testing"

	"assize/api"
	"assize/block"
	"assize/node"
	"assize/wal"
)

func TestNewSaysWhatBlockBeginSays(t *testing.T) {
	narrow, poor := six(), six()
	narrow.Width = 0
	for i := range poor.Starts {
		poor.Starts[i].Bond = 0
	}
	for _, g := range []api.Genesis{{}, narrow, poor} {
		log := logOf(t, voted(blank(1, 0, 1, 1)))
		log.Arm(1, 0)
		n, e := node.New(g, 1, log)
		if n != nil || e != api.ErrStart {
			t.Errorf("U1: New(%v): %v %d", g, n, e)
		}
		if _, safe := log.Bytes(); safe != 0 || log.Sync() != api.ErrDown {
			t.Errorf("U1, P1: New(%v) says an error, and changes the log", g)
		}
		down := wal.New()
		down.Die(0)
		if node.New(g, 1, down); !down.Down() {
			t.Errorf("U1, P1: New(%v) says an error, and the log is up", g)
		}
	}
}

func TestWhoLeadsMovesAtOnce(t *testing.T) {
	tip := tipOf(t, six())
	b := made(t, tip, 1, nil)
	m, v := api.Motion{From: 1, Block: b}, ballot(tip, b, 0, api.First, 1)
	log := wal.New()
	n := risen(t, six(), 1, log)
	at(t, "U1: who leads", n, 0, 0, 1)
	sent(t, "U1, U2: who leads", n, api.Message{From: 1, Height: 1, Votes: []api.Vote{v}, Motions: []api.Motion{m}})
	recorded(t, "U1, U2: who leads", log, moved(m), voted(v))
	waits(t, "U1: a new node", n)
	accused(t, "U1: a new node", n)
}

func TestOthersWait(t *testing.T) {
	for _, self := range []int{2, 3, 4, 0, -1, 5, 50, top, top + 1, math.MaxInt, math.MinInt} {
		log := wal.New()
		n := risen(t, six(), self, log)
		at(t, "U1: who does not lead", n, 0, 0, 0)
		sent(t, "U1: who does not lead", n)
		recorded(t, "U1: who does not lead", log)
		n.Tick()
		sent(t, "U3: who does not lead", n, api.Message{From: self, Height: 1})
	}
}

func TestOneSeatDecidesAtOnce(t *testing.T) {
	tip := tipOf(t, lone())
	b := made(t, tip, 1, nil)
	m, v, w := api.Motion{From: 1, Block: b}, ballot(tip, b, 0, api.First, 1), ballot(tip, b, 0, api.Second, 1)
	held, done := known(tip, b, 0, api.First), known(tip, b, 0, api.Second)
	held.Cert.Froms, done.Cert.Froms = []int{1}, []int{1}
	log := wal.New()
	n := risen(t, lone(), 1, log)
	at(t, "U1, U2: one seat", n, 1, -1, 0)
	sent(t, "U2: one seat", n, api.Message{
		From: 1, Height: 1, Votes: []api.Vote{v, w}, Motions: []api.Motion{m}, Knowns: []api.Known{done},
	})
	recorded(t, "U2: one seat", log, moved(m), voted(v), locked(held), voted(w), closed(done))
}

// chain is so many final blocks of the ledger six, each with a payment, and the tips behind them.
func chain(t *testing.T, count int) ([]api.Known, []block.Tip) {
	t.Helper()
	tips := []block.Tip{tipOf(t, six())}
	var l []api.Known
	for i := range count {
		b := made(t, tips[i], 1+i%3, []api.Tx{pay(50, i, 1)})
		l = append(l, known(tips[i], b, 0, api.Second))
		tips = append(tips, behind(t, tips[i], b))
	}
	return l, tips
}

// shown asks whether a node has just these final blocks, and the ledgers behind them.
func shown(t *testing.T, what string, n *node.Node, l []api.Known, tips []block.Tip) {
	t.Helper()
	if h, _, _ := n.Height(); h != len(l) {
		t.Fatalf("%s: %d blocks are final, not %d", what, h, len(l))
	}
	for h := range len(tips) {
		tip, e := n.Tip(h)
		if e != api.OK || tip.Header() != tips[h].Header() || tip.Tree().Root() != tips[h].Tree().Root() {
			t.Errorf("%s: the tip of the height %d is %v, not %v", what, h, tip.Header(), tips[h].Header())
		}
	}
	for i, k := range l {
		got, e := n.Final(i + 1)
		if e != api.OK || !sameKnown(got, k) {
			t.Errorf("%s: final at the height %d is %v (%d), not %v", what, i+1, got, e, k)
		}
	}
}

func TestClosedAreFinal(t *testing.T) {
	l, tips := chain(t, 3)
	n := risen(t, six(), 4, logOf(t, closed(l[0]), closed(l[1]), closed(l[2])))
	shown(t, "U1: of three that were closed", n, l, tips)
	at(t, "U1: of three that were closed", n, 3, 0, 0)

	n = risen(t, six(), 4, logOf(t, closed(l[1]), locked(l[0]), closed(l[0]), closed(l[0]), closed(l[2]), voted(blank(1, 0, 1, 4)), closed(l[1])))
	shown(t, "U1: those that the last tip does not take are none", n, l[:2], tips[:3])
	at(t, "U1: those that the last tip does not take are none", n, 2, 0, 0)

	bare := l[0]
	bare.Cert = api.Cert{Stage: api.First}
	n = risen(t, six(), 4, logOf(t, closed(bare)))
	shown(t, "U1: the block alone is asked for", n, []api.Known{bare}, tips[:2])

	log := logOf(t, closed(l[0]), closed(l[1]))
	log.Die(1 << 20)
	n = risen(t, six(), 4, log)
	shown(t, "U1: over a log that was down", n, l[:2], tips[:3])

	log = logOf(t, closed(l[0]), closed(l[1]))
	s, _ := log.Bytes()
	log.Die(len(s) - 1)
	n = risen(t, six(), 4, log)
	shown(t, "U1: of the last one a byte was lost", n, l[:1], tips[:2])
}

func TestCourtIsToldWhatWasRecorded(t *testing.T) {
	tip := tipOf(t, six())
	v := blank(1, 2, api.First, 2)
	n := risen(t, six(), 2, logOf(t, voted(v), voted(blank(2, 5, 1, 2)), voted(blank(1, 5, 1, 3))))
	at(t, "U1: it voted in the round 2", n, 0, 2, 1)
	sent(t, "U1: what was said is not said again", n)
	n.Tick()
	sent(t, "U1, U3: but told with what the court says", n, api.Message{From: 2, Height: 1, Votes: []api.Vote{v}})

	b := made(t, tip, 1, []api.Tx{pay(50, 0, 1)})
	m := api.Motion{From: 1, Block: b}
	w := ballot(tip, b, 0, api.First, 1)
	log := logOf(t, moved(m))
	n = risen(t, six(), 1, log)
	sent(t, "U1: it has moved, and votes for it", n, api.Message{From: 1, Height: 1, Votes: []api.Vote{w}})
	recorded(t, "U1: it has moved, and votes for it", log, moved(m), voted(w))

	l, tips := chain(t, 1)
	b = made(t, tips[1], 2, nil)
	x := ballot(tips[1], b, 0, api.First, 2)
	log = logOf(t, voted(blank(1, 7, api.First, 2)), closed(l[0]))
	n = risen(t, six(), 2, log)
	at(t, "U1: what was said at a height that is final is over", n, 1, 0, 1)
	sent(t, "U1: the leader of the second height", n,
		api.Message{From: 2, Height: 2, Votes: []api.Vote{x}, Motions: []api.Motion{{From: 2, Block: b}}})

	k := known(tip, made(t, tip, 1, nil), 0, api.First)
	n = risen(t, six(), 2, logOf(t, locked(k), voted(ballot(tip, k.Block, 0, api.Second, 2)), voted(blank(1, 1, api.First, 2))))
	at(t, "U1: it holds on to a block", n, 0, 1, 1)
	sent(t, "U1: which it moves when it leads", n, api.Message{From: 2, Height: 1, Motions: []api.Motion{{
		Round: 1, From: 2, Block: k.Block, Basis: []api.Cert{k.Cert},
	}}})
}

func TestDownAtOnce(t *testing.T) {
	log := wal.New()
	log.Die(0)
	log.Arm(1, 0)
	n := risen(t, six(), 1, log)
	if !n.Down() {
		t.Errorf("U1, U2: the log dies when the court begins, and the node is not down")
	}
	sent(t, "U2: the log dies when the court begins", n)
}
