package court_test

import (
	"math/rand"
	"slices"
	"testing"

	"assize/api"
	"assize/block"
	"assize/court"
)

// draw draws what comes to a court.
type draw struct {
	*rand.Rand
	tip    block.Tip
	seats  []api.Seat
	blocks []api.Block
}

func drawnLedger(t *testing.T, r *rand.Rand) block.Tip {
	g := api.Genesis{Chain: 1, Width: 1 + r.Intn(8), Epoch: 1 + r.Intn(3), Gas: 900}
	for i := range 1 + r.Intn(5) {
		g.Starts = append(g.Starts, api.Start{Who: i + 1, Balance: 500, Bond: 1 + r.Intn(3)})
	}
	g.Starts = append(g.Starts, api.Start{Who: 50, Balance: 9000})
	tip := begin(t, g)
	for range r.Intn(3) {
		b, _ := tip.Make(tip.Leader(0), nil, nil)
		next, _, e := tip.Take(b)
		if e != api.OK {
			t.Fatalf("Take(%v): %d", b, e)
		}
		tip = next
	}
	return tip
}

func newDraw(t *testing.T, r *rand.Rand) *draw {
	d := &draw{Rand: r, tip: drawnLedger(t, r)}
	d.seats = d.tip.Bench()
	for range 1 + r.Intn(5) {
		b, _ := d.tip.Make(d.someone(), []api.Tx{pay(r.Intn(3))}, nil)
		d.blocks = append(d.blocks, b)
	}
	return d
}

func (d *draw) someone() int { return d.seats[d.Intn(len(d.seats))].Who }

func (d *draw) height() int { return d.tip.Header().Height + 1 }

func (d *draw) block() api.Block { return d.blocks[d.Intn(1+d.Intn(len(d.blocks)))] }

// near is a round that is often this one.
func (d *draw) near(round int) int {
	return max(0, round+[]int{0, 0, 0, 0, 0, -1, 1, 1, 2, 17, 5, -2}[d.Intn(12)])
}

func (d *draw) vote(round int) api.Vote {
	v := api.Vote{Height: d.height(), Round: d.near(round), Stage: []int{0, 1, 1, 1, 1, 2, 2, 2, 2}[d.Intn(9)], From: d.someone()}
	if v.Stage == 0 || d.Intn(4) > 0 {
		v.Has, v.Block = true, d.tip.Name(d.block().Header)
	}
	switch d.Intn(60) {
	case 0:
		v.Height++
	case 1:
		v.From = 9
	case 2:
		v.Stage = 3
	}
	return v
}

func (d *draw) cert(round, stage int, b api.Block) api.Cert {
	x := api.Cert{Height: d.height(), Round: round, Stage: stage, Has: true, Block: d.tip.Name(b.Header)}
	for _, s := range d.seats {
		if d.Intn(9) > 0 {
			x.Froms = append(x.Froms, s.Who)
		}
	}
	switch d.Intn(60) {
	case 0:
		x.Height++
	case 1:
		x.Block++
	case 2:
		x.Froms = append(x.Froms, 9)
	case 3:
		x.Has, x.Block = false, 0
	case 4:
		x.Stage = 3 - stage
	}
	return x
}

func (d *draw) motion(round int) api.Motion {
	m := api.Motion{Round: d.near(round), Block: d.block()}
	m.From = d.tip.Leader(m.Round)
	switch d.Intn(3) {
	case 0:
		m.Basis = []api.Cert{d.cert(max(0, m.Round-d.Intn(3)), 1, m.Block)}
	case 1:
		m.Block, _ = d.tip.Make(m.From, []api.Tx{pay(d.Intn(2))}, nil)
		d.blocks = append(d.blocks, m.Block)
	}
	m.Block = d.spoiled(m.Block)
	return m
}

// spoiled is a block, now and then with something wrong in it.
func (d *draw) spoiled(b api.Block) api.Block {
	switch d.Intn(60) {
	case 0:
		b.Header.State++
	case 1:
		b.Header.Height++
	case 2:
		b.Txs = nil
	case 3:
		b.Txs = make([]api.Tx, 17)
	}
	return b
}

func (d *draw) known(round int) api.Known {
	b := d.block()
	stage := api.First
	if d.Intn(8) == 0 {
		stage = api.Second
	}
	return api.Known{Cert: d.cert(d.near(round), stage, b), Block: d.spoiled(b)}
}

// both is a court, and one that is told anew.
type both struct {
	c   *court.Court
	p   *plain
	log []api.Record
}

// does one drawn call on both, and says what it was if they answer unlike.
func (x *both) does(d *draw) (string, api.Errno, bool) {
	var l, m []api.Record
	var g, h api.Guilt
	var e, f api.Errno
	what := "Tick"
	switch d.Intn(10) {
	case 0, 1, 2:
		l, m = x.c.Tick(), x.p.tick()
	case 3, 4:
		what = "Motion"
		y := d.motion(x.p.round)
		l, g, e = x.c.Motion(y)
		m, h, f = x.p.hears(y)
	case 5:
		what = "Known"
		y := d.known(x.p.round)
		l, e = x.c.Known(y)
		m, f = x.p.takes(y)
	case 6:
		what = "Fill"
		txs := []api.Tx{pay(d.Intn(3)), pay(d.Intn(3))}
		x.c.Fill(txs, nil)
		x.p.txs = txs
	default:
		what = "Vote"
		y := d.vote(x.p.round)
		l, g, e = x.c.Vote(y)
		m, h, f = x.p.vote(y)
	}
	x.log = append(x.log, l...)
	return what, e, g == h && e == f && slices.EqualFunc(l, m, sameRecord) && x.alike()
}

// alike: do both show the same?
func (x *both) alike() bool {
	round, step := x.c.Where()
	return round == x.p.round && step == x.p.step && sameMessage(x.c.Says(), x.p.says()) &&
		sameKnowns(x.c.Locked(), x.p.locked) && sameKnowns(x.c.Done(), x.p.done)
}

// fallen is one behind a fall, of whose records some may be lost.
func (x *both) fallen(d *draw, self int, lost bool) (*both, bool) {
	y := &both{c: court.New(d.tip, self), p: newPlain(d.tip, self)}
	for _, r := range x.log {
		if !lost || d.Intn(4) > 0 {
			y.c.Redo(r)
			y.p.redo(r)
			y.log = append(y.log, r)
		}
	}
	for range d.Intn(3) * d.Intn(3) {
		v := d.vote(0)
		l, g, e := y.c.Vote(v)
		m, h, f := y.p.vote(v)
		if g != h || e != f || len(l)+len(m) > 0 {
			return y, false
		}
	}
	if !y.alike() {
		return y, false
	}
	l, m := y.c.Begin(), y.p.begin()
	y.log = append(y.log, l...)
	return y, slices.EqualFunc(l, m, sameRecord) && y.alike()
}

func TestCourtsAsToldAnew(t *testing.T) {
	r := rand.New(rand.NewSource(18))
	told := map[api.Errno]int{}
	wanted := map[int]int{}
	far := 0
	for range 1500 {
		d := newDraw(t, r)
		self := []int{d.someone(), d.someone(), d.someone(), 0, 9}[r.Intn(5)]
		x, ok := (&both{}).fallen(d, self, false)
		for steps := r.Intn(90); ok && steps > 0; steps-- {
			var what string
			var e api.Errno
			if what, e, ok = x.does(d); !ok {
				t.Fatalf("R1 to R9: of the bench %v, by %d, %s: %v %v, not %v %v", d.seats, self, what, x.log, x.c.Says(), x.p.out, x.p.says())
			}
			told[e]++
			if d.Intn(40) == 0 {
				x, ok = x.fallen(d, self, d.Intn(3) == 0)
			}
		}
		if !ok {
			t.Fatalf("R8: of the bench %v, by %d, behind a fall: %v %v, not %v", d.seats, self, x.log, x.c.Says(), x.p.says())
		}
		for _, y := range x.log {
			wanted[y.Kind]++
		}
		if round, _ := x.c.Where(); round > 2 {
			far++
		}
	}
	for _, e := range []api.Errno{api.OK, api.ErrForm, api.ErrLimit, api.ErrHeight, api.ErrFar, api.ErrSeat, api.ErrRoot, api.ErrWeight, api.ErrSaid, api.ErrGuilt} {
		if told[e] < 20 {
			t.Errorf("what is drawn comes to little: %d is told %d times", e, told[e])
		}
	}
	for kind := api.Voted; kind <= api.Closed; kind++ {
		if wanted[kind] < 100 {
			t.Errorf("what is drawn comes to little: records of the kind %d: %d", kind, wanted[kind])
		}
	}
	if far < 100 {
		t.Errorf("what is drawn comes to little: %d times beyond the round 2", far)
	}
}
