package node_test

import (
	"fmt"
	"math/rand"
	"testing"

	"assize/api"
	"assize/block"
	"assize/node"
	"assize/wal"
)

// both is a node, and one that is told anew, each with a log of its own.
type both struct {
	n         *node.Node
	p         *plain
	log, plog *wal.Log
}

func (x *both) rise(t *testing.T, g api.Genesis, self int) {
	x.n = risen(t, g, self, x.log)
	x.p = newPlain(g, self, x.plog)
}

// alike: do both show the same? What they sent is told.
func (x *both) alike() ([]api.Message, bool) {
	out := x.n.Out()
	same := fmt.Sprint(out) == fmt.Sprint(x.p.out)
	x.p.out = nil
	height, round, step := x.n.Height()
	r, s := -1, 0
	if x.p.c != nil {
		r, s = x.p.c.Where()
	}
	same = same && height == len(x.p.finals) && round == r && step == s && x.n.Down() == x.p.isDown
	same = same && fmt.Sprint(x.n.Guilts(), x.n.Waiting()) == fmt.Sprint(x.p.guilts, x.p.p.All())
	a, i := x.log.Bytes()
	b, j := x.plog.Bytes()
	return out, same && a == b && i == j
}

// ledgers: do both have the same blocks, and the same behind them?
func (x *both) ledgers() bool {
	for h := range len(x.p.finals) + 2 {
		k, e := x.n.Final(h)
		if h > 0 && h <= len(x.p.finals) {
			s, f := x.n.Sight(h)
			want := api.Sight{Header: x.p.finals[h-1].Block.Header, Cert: x.p.finals[h-1].Cert, Seats: x.p.tips[h].Bench()}
			if e != api.OK || f != api.OK || !sameKnown(k, x.p.finals[h-1]) || fmt.Sprint(s) != fmt.Sprint(want) {
				return false
			}
		}
		tip, e := x.n.Tip(h)
		if h < len(x.p.tips) && (e != api.OK || tip.Header() != x.p.tips[h].Header()) || h >= len(x.p.tips) && e != api.ErrHeight {
			return false
		}
	}
	return true
}

// draw is a hall of such nodes, and what is drawn for it.
type draw struct {
	*rand.Rand
	t    *testing.T
	g    api.Genesis
	all  []*both
	way  []api.Message
	fell int
}

func newDraw(t *testing.T, r *rand.Rand) *draw {
	d := &draw{Rand: r, t: t, g: api.Genesis{Chain: 1, Width: 1 + r.Intn(8), Epoch: 1 + r.Intn(3), Gas: 60 + r.Intn(200)}}
	seats := 1 + r.Intn(4)
	for i := range seats {
		d.g.Starts = append(d.g.Starts, api.Start{Who: i + 1, Balance: 500, Bond: 1 + r.Intn(3)})
	}
	d.g.Starts = append(d.g.Starts, api.Start{Who: 50, Balance: 9000}, api.Start{Who: 51, Balance: 100})
	for range seats + r.Intn(2) { // of some there is one who looks on
		x := &both{log: wal.New(), plog: wal.New()}
		d.all = append(d.all, x)
		x.rise(t, d.g, len(d.all))
	}
	return d
}

// tx is one that can mostly be applied, soon.
func (d *draw) tx(tip block.Tip) api.Tx {
	t := api.Tx{Kind: api.Pay, From: []int{1, 2, 50, 50, 51}[d.Intn(5)], Price: d.Intn(4), Limit: 16 + d.Intn(60), To: 60, Amount: d.Intn(3)}
	t.Nonce = account(tip, t.From).Nonce + d.Intn(3)
	switch d.Intn(20) {
	case 0:
		t.Kind, t.To = api.Bond, 0
	case 1:
		t.Limit = api.MaxGas + d.Intn(2)
	case 2:
		t.Price = 9000
	case 3:
		t.To = 0
	case 4:
		t.Nonce += 16
	}
	return t
}

// tip is some ledger of a node.
func (d *draw) tip(x *both) block.Tip { return x.p.tips[max(0, len(x.p.tips)-1-d.Intn(2))] }

// lie is what somebody might say of the height under way, or of one near.
func (d *draw) lie(x *both) api.Message {
	tip := d.tip(x)
	height := tip.Header().Height + 1
	m := api.Message{From: 1 + d.Intn(6), Height: height + d.Intn(5)/4 - d.Intn(5)/4}
	who := 1 + d.Intn(len(d.all))
	b, e := tip.Make(who, []api.Tx{d.tx(tip), d.tx(tip)}, nil)
	name := api.Digest(1 + d.Intn(2))
	if e == api.OK && d.Intn(3) > 0 {
		name = tip.Name(b.Header)
	}
	round := d.Intn(3)
	for range d.Intn(5) {
		v := api.Vote{Height: height, Round: round, Stage: d.Intn(3), Has: true, Block: name, From: 1 + d.Intn(len(d.all))}
		if v.Stage != api.Moves && d.Intn(4) == 0 {
			v.Has, v.Block = false, 0
		}
		m.Votes = append(m.Votes, v)
	}
	if e == api.OK {
		for range d.Intn(3) {
			m.Motions = append(m.Motions, api.Motion{Round: round, From: who, Block: b})
			b, _ = tip.Make(who, nil, nil)
		}
		k := known(tip, b, d.Intn(2), 1+d.Intn(2))
		k.Cert.Froms = nil
		for who := range d.all {
			if d.Intn(4) > 0 {
				k.Cert.Froms = append(k.Cert.Froms, who+1)
			}
		}
		if d.Intn(6) == 0 {
			m.Knowns = append(m.Knowns, k)
		}
	}
	if d.Intn(10) == 0 {
		m.From = d.Intn(2) - 1
	}
	return m
}

// does one drawn thing to one of the nodes: what it was.
func (d *draw) does(x *both, self int) string {
	switch k := d.Intn(20); {
	case k < 4:
		x.n.Tick()
		x.p.tick()
		return "Tick"
	case k < 7:
		t := d.tx(d.tip(x))
		if e, f := x.n.Submit(t), x.p.submit(t); e != f {
			d.t.Fatalf("U3: Submit(%v): %d, not %d", t, e, f)
		}
		return "Submit"
	case k < 8 && d.Intn(3) == 0:
		n, keep := d.Intn(6)-1, d.Intn(500)-10
		x.log.Arm(n, keep)
		x.plog.Arm(n, keep)
		return "Arm"
	case k < 9 && (x.n.Down() || d.Intn(5) == 0):
		d.fell++
		x.rise(d.t, d.g, self)
		return "New"
	case k < 12:
		m := d.lie(x)
		x.n.Take(m)
		x.p.take(m)
		return fmt.Sprint("Take ", m)
	case len(d.way) > 0:
		m := d.way[max(0, len(d.way)-1-d.Intn(20))]
		x.n.Take(m)
		x.p.take(m)
		return fmt.Sprint("Take ", m)
	}
	return ""
}

func TestNodesAsToldAnew(t *testing.T) {
	r := rand.New(rand.NewSource(21))
	downs, fell, blocks, punished, paid := 0, 0, 0, 0, 0
	for range 400 {
		d := newDraw(t, r)
		for range r.Intn(200) {
			self := 1 + r.Intn(len(d.all))
			x := d.all[self-1]
			up := !x.p.isDown
			what := d.does(x, self)
			out, same := x.alike()
			if !same {
				t.Fatalf("U1 to U5: %s: of %v, by %d: %s %v, not %v %v %v", what, d.g, self, shows(x.n), out, x.p.finals, x.p.guilts, x.p.p.All())
			}
			d.way = append(d.way, out...)
			if up && x.p.isDown {
				downs++
			}
		}
		for _, x := range d.all {
			if !x.ledgers() {
				t.Fatalf("U5: of %v: %s, not %v", d.g, shows(x.n), x.p.finals)
			}
			blocks += len(x.p.finals)
			for _, k := range x.p.finals {
				paid += len(k.Block.Txs)
				punished += len(k.Block.Guilts)
			}
		}
		fell += d.fell
	}
	if downs < 50 || fell < 100 || blocks < 500 || punished < 5 || paid < 300 {
		t.Errorf("what is drawn comes to little: %d downs, %d falls, %d blocks, %d guilts in them, %d transactions", downs, fell, blocks, punished, paid)
	}
}
