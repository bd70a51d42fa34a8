package world_test

import (
	"fmt"
	"math/rand"
	"slices"
	"testing"

	"assize/api"
	"assize/block"
	"assize/node"
	"assize/world"
)

// draw is a world, one that is told anew, and what is drawn for both.
type draw struct {
	*rand.Rand
	t     *testing.T
	g     api.Genesis
	liars []int
	w     *world.World
	p     *plain
	tally map[string]int
}

func newDraw(t *testing.T, r *rand.Rand, tally map[string]int) *draw {
	d := &draw{Rand: r, t: t, tally: tally}
	d.g = api.Genesis{Chain: 1, Width: 1 + r.Intn(8), Epoch: 1 + r.Intn(3), Gas: 60 + r.Intn(200)}
	last := 0
	for range 1 + r.Intn(5) {
		last += 1 + r.Intn(2)
		s := api.Start{Who: last, Balance: 500, Bond: r.Intn(4)}
		if last == 1 {
			s.Bond = 2
		}
		d.g.Starts = append(d.g.Starts, s)
		if s.Bond > 0 && r.Intn(3) == 0 {
			d.liars = append(d.liars, s.Who)
		}
	}
	if !slices.ContainsFunc(d.g.Starts, func(s api.Start) bool { return s.Bond > 0 }) {
		d.g.Starts[0].Bond = 1
	}
	d.g.Starts = append(d.g.Starts, api.Start{Who: 50, Balance: 9000}, api.Start{Who: 51, Balance: 100})
	d.w, d.p = begun(t, d.g, d.liars...), newPlain(d.g, d.liars)
	return d
}

// someone is mostly one who keeps a node.
func (d *draw) someone() int {
	if d.Intn(12) == 0 {
		return []int{0, -1, 50, 9}[d.Intn(4)]
	}
	return d.p.who[d.Intn(len(d.p.who))]
}

// liar is mostly one who lies.
func (d *draw) liar() int {
	if len(d.liars) == 0 || d.Intn(10) == 0 {
		return d.someone()
	}
	return d.liars[d.Intn(len(d.liars))]
}

func (d *draw) tx() api.Tx {
	t := api.Tx{Kind: api.Pay, From: []int{1, 2, 50, 50, 51}[d.Intn(5)], Nonce: d.Intn(4), Price: d.Intn(3), Limit: 16 + d.Intn(2), To: 60, Amount: d.Intn(2)}
	switch d.Intn(12) {
	case 0:
		t.Kind, t.To = api.Bond, 0
	case 1:
		t.Price = 9000
	case 2:
		t.To = 0
	}
	return t
}

// vote is mostly one of a liar, or one that was sent; now and then it is another.
func (d *draw) vote() api.Vote {
	if len(d.p.sent) > 0 && d.Intn(2) == 0 {
		l, _ := d.p.parts(d.p.sent[d.Intn(len(d.p.sent))])
		if len(l) > 0 {
			v := l[d.Intn(len(l))]
			if d.Intn(8) == 0 {
				v.Round++
			}
			return v
		}
	}
	v := api.Vote{Height: d.height(), Round: d.Intn(2), Stage: d.Intn(3), Has: true, Block: api.Digest(d.Intn(3)), From: max(1, d.liar())}
	if v.Stage != api.Moves && d.Intn(3) == 0 {
		v.Has, v.Block = false, 0
	}
	return v
}

// height is one that is near what is under way.
func (d *draw) height() int { return d.last().Header().Height + d.Intn(2) }

// last is the last ledger of some node, if one is up.
func (d *draw) last() block.Tip {
	for _, who := range d.p.who {
		if n := d.p.nodes[who]; n != nil {
			return lastTip(n)
		}
	}
	return d.p.tip
}

// block is one that may be the next one, or has what nobody said in it.
func (d *draw) block(who int) api.Block {
	b, _ := d.last().Make(who, []api.Tx{d.tx(), d.tx()}, nil)
	if d.Intn(4) == 0 {
		b.Guilts = append(b.Guilts, api.Guilt{A: d.vote(), B: d.vote()})
	}
	return b
}

func (d *draw) cert() api.Cert {
	v := d.vote()
	c := api.Cert{Height: v.Height, Round: v.Round, Stage: max(v.Stage, 1), Has: v.Has, Block: v.Block}
	for _, who := range d.p.who {
		if who == v.From || d.Intn(4) == 0 {
			c.Froms = append(c.Froms, who)
		}
	}
	return c
}

func (d *draw) lie() api.Message {
	m := api.Message{From: d.liar(), To: max(0, d.Intn(2)*d.someone()), Height: d.height()}
	if len(d.p.sent) > 0 && d.Intn(4) == 0 {
		x := d.p.sent[d.Intn(len(d.p.sent))]
		m.Votes, m.Motions, m.Knowns, m.Txs, m.Height = x.Votes, x.Motions, x.Knowns, x.Txs, x.Height
		return m
	}
	for range d.Intn(3) {
		m.Votes = append(m.Votes, d.vote())
	}
	who := max(1, d.liar())
	if d.Intn(4) == 0 {
		x := api.Motion{Round: d.Intn(2), From: who, Block: d.block(who)}
		if d.Intn(2) == 0 {
			x.Basis = append(x.Basis, d.cert())
		}
		m.Motions = append(m.Motions, x)
	}
	if d.Intn(5) == 0 {
		m.Knowns = append(m.Knowns, api.Known{Cert: d.cert(), Block: d.block(who)})
	}
	if d.Intn(5) == 0 {
		m.Txs = append(m.Txs, d.tx())
	}
	return m
}

// does one drawn thing to both worlds: what it was, and what both say.
func (d *draw) does() (what string, got, want api.Errno) {
	switch who, n := d.someone(), d.Intn(40)-20; d.Intn(11) {
	case 0:
		t := d.tx()
		return fmt.Sprint("Submit ", who, t), d.w.Submit(who, t), d.p.submit(who, t)
	case 1:
		kind := d.Intn(5)
		return fmt.Sprint("Net ", kind, n), d.w.Net(kind, n), d.p.net(kind, n)
	case 2:
		a, keep := d.Intn(6)-1, d.Intn(500)-9
		if d.Intn(3) > 0 {
			return "", 0, 0
		}
		return fmt.Sprint("Stop ", who, a, keep), d.w.Stop(who, a, keep), d.p.stop(who, a, keep)
	case 3:
		return fmt.Sprint("Begin ", who), d.w.Begin(who), d.p.begin(who)
	case 4, 5:
		m := d.lie()
		return fmt.Sprint("Lie ", m), d.w.Lie(m), d.p.lie(m)
	case 6:
		k := d.Intn(4) - 1
		d.w.Calm(k)
		d.p.calm(k)
		return fmt.Sprint("Calm ", k), 0, 0
	case 7:
		return "Tick 0", d.w.Tick(0), d.p.tick(0)
	case 8:
		return fmt.Sprint("Tick ", who), d.w.Tick(who), d.p.tick(who)
	default:
		for range 5 {
			n = d.Intn(40) - 20
			got, want = d.w.Net(api.Deliver, n), d.p.net(api.Deliver, n)
		}
		return "Deliver", got, want
	}
}

// alike asks whether both worlds show the same.
func (d *draw) alike(what string) {
	if d.w.Way() != len(d.p.way) {
		d.t.Fatalf("X2, X3: %s: of %v: %d are on their way, not %d", what, d.g, d.w.Way(), len(d.p.way))
	}
	for range 3 {
		n := d.Intn(40) - 20
		got, e := d.w.Peek(n)
		if len(d.p.way) == 0 {
			if e != api.ErrPlace {
				d.t.Fatalf("X6: %s: Peek(%d): %d", what, n, e)
			}
			continue
		}
		i := (n%len(d.p.way) + len(d.p.way)) % len(d.p.way)
		if e != api.OK || !same(got, d.p.way[i]) {
			d.t.Fatalf("X6: %s: Peek(%d): %v, not %v", what, n, got, d.p.way[i])
		}
	}
	for _, who := range append(d.p.who, 0, 9) {
		n, e := d.w.Node(who)
		if e != d.p.there(who) || e == api.OK && !sameNode(n, d.p.nodes[who]) {
			d.t.Fatalf("X2 to X6: %s: Node(%d): %d, not %d; or the nodes are unlike", what, who, e, d.p.there(who))
		}
	}
}

// sameNode: do two nodes show the same?
func sameNode(a, b *node.Node) bool {
	h, r, s := a.Height()
	x, y, z := b.Height()
	return h == x && r == y && s == z && lastTip(a).Header() == lastTip(b).Header() &&
		same(a.Guilts(), b.Guilts()) && same(a.Waiting(), b.Waiting())
}

// shows asks what both worlds show to one who sees headers alone, and whom they hold to be honest.
func (d *draw) shows() {
	if !slices.Equal(d.w.Who(), d.p.who) {
		d.t.Fatalf("X1: of %v there are %v", d.g, d.w.Who())
	}
	v, e := world.View(d.g)
	if e != api.OK {
		d.t.Fatalf("X7: View(%v): %d", d.g, e)
	}
	for _, who := range append(d.p.who, 0, 9) {
		var heights []int
		for range d.Intn(6) {
			heights = append(heights, d.Intn(8)-1)
		}
		got, codes := d.w.Show(who, v, heights)
		want, wantCodes := d.p.show(who, v, heights)
		if !same(got, want) || !slices.Equal(codes, wantCodes) {
			d.t.Fatalf("X7: Show(%d, %v, %v): %v %v, not %v %v", who, v, heights, got, codes, want, wantCodes)
		}
		for _, x := range codes {
			d.tally[fmt.Sprint("Show ", x)]++
		}
		if n := d.p.nodes[who]; n != nil {
			h, _, _ := n.Height()
			for i := range h + 1 {
				tip, _ := n.Tip(i)
				honest := d.p.honest(tip)
				if d.w.Honest(tip) != honest {
					d.t.Fatalf("X6: Honest of %v, with the liars %v", tip.Bench(), d.liars)
				}
				d.tally[fmt.Sprint("Honest ", honest)]++
			}
		}
	}
}

func TestWorldsAsToldAnew(t *testing.T) {
	r := rand.New(rand.NewSource(31))
	tally := map[string]int{}
	for range 250 {
		d := newDraw(t, r, tally)
		for range r.Intn(80) {
			what, got, want := d.does()
			if got != want {
				t.Fatalf("X2 to X6: of %v, with the liars %v: %s: it says %d, not %d", d.g, d.liars, what, got, want)
			}
			d.alike(what)
			var verb string
			fmt.Sscan(what, &verb)
			tally[fmt.Sprint(verb, " ", int(got))]++
		}
		d.shows()
		tally["blocks"] += d.last().Header().Height
	}
	for _, what := range []string{
		"Submit 0", "Submit 2", "Submit 17", "Submit 27", "Submit 15", "Net 0", "Net 30", "Net 10", "Tick 0", "Tick 17",
		"Stop 0", "Stop 17", "Stop 27", "Begin 0", "Begin 17", "Begin 26", "Lie 0", "Lie 2", "Lie 17", "Lie 28", "Calm 0",
		"Show 0", "Show 19", "Show 20", "Honest true", "Honest false", "blocks",
	} {
		if tally[what] < 20 {
			t.Errorf("what is drawn comes to little: of %q there are %d", what, tally[what])
		}
	}
}
