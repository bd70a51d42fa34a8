package court_test

import (
	"math"
	"testing"

	"assize/api"
	"assize/block"
	"assize/court"
)

// stays asks whether a call that says an error left a court as it was.
func stays(t *testing.T, what string, c *court.Court, call func()) {
	t.Helper()
	round, step := c.Where()
	says := c.Says()
	call()
	if r, s := c.Where(); r != round || s != step || !sameMessage(c.Says(), says) {
		t.Errorf("P1: %s changed something", what)
	}
}

func TestMoving(t *testing.T) {
	tip, _ := newCourt(t, 1)
	b := made(t, tip, "A3")
	b.Header.Height = 7
	for _, m := range []api.Motion{
		{Round: 4, From: 3, Block: b},
		{Round: 4, From: 9, Block: made(t, tip, "A3"), Basis: []api.Cert{certOf(t, tip, 2, 1, "A3", "123")}},
		{},
		{Round: math.MinInt, From: -1, Block: api.Block{Header: api.Header{Height: math.MaxInt}}},
	} {
		want := api.Vote{Height: m.Block.Header.Height, Round: m.Round, Stage: api.Moves, Has: true, Block: tip.Name(m.Block.Header), From: m.From}
		if got := court.Moving(tip, m); got != want {
			t.Errorf("R2: Moving(%v) is %v, not %v", m, got, want)
		}
	}
}

func TestVoteErrors(t *testing.T) {
	tip, c := newCourt(t, 2)
	c.Begin()
	first := ballot(t, tip, 0, api.First, "A1", 3)
	c.Vote(first)
	with := func(how func(*api.Vote)) api.Vote {
		v := first
		how(&v)
		return v
	}
	other := with(func(v *api.Vote) { v.Block++ })
	for _, x := range []struct {
		what  string
		v     api.Vote
		want  api.Errno
		guilt api.Guilt
	}{
		{"too far", with(func(v *api.Vote) { v.Round = 17 }), api.ErrFar, api.Guilt{}},
		{"too far, and nothing else that may be", api.Vote{Height: -1, Round: 17, Stage: 5}, api.ErrFar, api.Guilt{}},
		{"further than any number", with(func(v *api.Vote) { v.Round = math.MaxInt }), api.ErrFar, api.Guilt{}},
		{"a round below 0", with(func(v *api.Vote) { v.Round = -1 }), api.ErrLimit, api.Guilt{}},
		{"a round far below 0", with(func(v *api.Vote) { v.Round = math.MinInt }), api.ErrLimit, api.Guilt{}},
		{"no stage", with(func(v *api.Vote) { v.Stage = 3 }), api.ErrForm, api.Guilt{}},
		{"none moved", with(func(v *api.Vote) { v.Stage, v.Has, v.Block = 0, false, 0 }), api.ErrForm, api.Guilt{}},
		{"another height", with(func(v *api.Vote) { v.Height = 2 }), api.ErrHeight, api.Guilt{}},
		{"another height, no seat", with(func(v *api.Vote) { v.Height, v.From = 0, 9 }), api.ErrHeight, api.Guilt{}},
		{"no seat", with(func(v *api.Vote) { v.From = 9 }), api.ErrSeat, api.Guilt{}},
		{"the same", first, api.ErrSaid, api.Guilt{}},
		{"another", other, api.ErrGuilt, api.Guilt{A: first, B: other}},
		{"another, once more", other, api.ErrGuilt, api.Guilt{A: first, B: other}},
	} {
		stays(t, x.what, c, func() {
			if l, g, e := c.Vote(x.v); len(l) > 0 || g != x.guilt || e != x.want {
				t.Errorf("R7: Vote, %s: %v %v %d, not %v %d", x.what, l, g, e, x.guilt, x.want)
			}
		})
	}
	if _, _, e := c.Vote(with(func(v *api.Vote) { v.Round = 16 })); e != api.OK {
		t.Errorf("R7: Vote, of the last round that is not too far: %d", e)
	}
}

// faulty is a motion or a known with something wrong in it.
type faulty[T any] struct {
	what string
	how  func(*T)
	want api.Errno
}

func motionFaults(t *testing.T, tip block.Tip) []faulty[api.Motion] {
	basis := func(how func(*api.Cert)) func(*api.Motion) {
		return func(m *api.Motion) {
			*m = moves(t, tip, 5, "A1", certOf(t, tip, 3, api.First, "A1", "123"))
			how(&m.Basis[0])
		}
	}
	return []faulty[api.Motion]{
		{"a round below 0", func(m *api.Motion) { m.Round = -1 }, api.ErrLimit},
		{"nobody's", func(m *api.Motion) { m.From = 0 }, api.ErrForm},
		{"nobody's, another height", func(m *api.Motion) { m.From, m.Block.Header.Height = 0, 2 }, api.ErrForm},
		{"one who may not be", func(m *api.Motion) { m.From = top + 1 }, api.ErrLimit},
		{"too many transactions", func(m *api.Motion) { m.Block.Txs = make([]api.Tx, 17) }, api.ErrLimit},
		{"a transaction that may not be", func(m *api.Motion) { m.Block.Txs = make([]api.Tx, 1) }, api.ErrForm},
		{"two bases", func(m *api.Motion) { m.Basis = make([]api.Cert, 2) }, api.ErrLimit},
		{"a basis that may not be", basis(func(x *api.Cert) { x.Stage = api.Moves }), api.ErrForm},
		{"another height", func(m *api.Motion) { m.Block.Header.Height = 2 }, api.ErrHeight},
		{"another height, too far", func(m *api.Motion) { m.Block.Header.Height, m.Round = 0, 99 }, api.ErrHeight},
		{"too far", func(m *api.Motion) { m.Round = 17 }, api.ErrFar},
		{"too far, and not the leader", func(m *api.Motion) { m.Round, m.From = top, 3 }, api.ErrFar},
		{"not the leader", func(m *api.Motion) { m.Round = 1 }, api.ErrSeat},
		{"not the leader, with no basis", func(m *api.Motion) {
			basis(func(x *api.Cert) { x.Height = 2 })(m)
			m.Round = 6
		}, api.ErrSeat},
		{"no seat", func(m *api.Motion) { m.From = 9 }, api.ErrSeat},
		{"a basis of another height", basis(func(x *api.Cert) { x.Height = 2 }), api.ErrRoot},
		{"a basis of the stage Second", basis(func(x *api.Cert) { x.Stage = api.Second }), api.ErrRoot},
		{"a basis for none", basis(func(x *api.Cert) { x.Has, x.Block = false, 0 }), api.ErrRoot},
		{"a basis of this round", basis(func(x *api.Cert) { x.Round = 5 }), api.ErrRoot},
		{"a basis of a later round", basis(func(x *api.Cert) { x.Round = 6 }), api.ErrRoot},
		{"a basis for another block", basis(func(x *api.Cert) { x.Block++ }), api.ErrRoot},
		{"a basis for another block, of too few", basis(func(x *api.Cert) { x.Block, x.Froms = x.Block+1, nil }), api.ErrRoot},
		{"a basis of too few", basis(func(x *api.Cert) { x.Froms = []int{1, 3} }), api.ErrWeight},
		{"a basis of one without a seat", basis(func(x *api.Cert) { x.Froms = []int{1, 2, 3, 9} }), api.ErrSeat},
		{"a basis of too few, a block that is not taken", func(m *api.Motion) {
			b := made(t, tip, "A1")
			b.Header.State++
			*m = api.Motion{Round: 5, From: 2, Block: b, Basis: []api.Cert{{Height: 1, Stage: api.First, Has: true, Block: tip.Name(b.Header), Froms: []int{1}}}}
		}, api.ErrWeight},
		{"another's block without a basis", func(m *api.Motion) { m.Block = made(t, tip, "A2") }, api.ErrSeat},
		{"another's block, which is not taken", func(m *api.Motion) { m.Block.Header.Proposer, m.Block.Header.Chain = 2, 9 }, api.ErrSeat},
		{"another chain", func(m *api.Motion) { m.Block.Header.Chain = 9 }, api.ErrParent},
		{"another parent", func(m *api.Motion) { m.Block.Header.Parent++ }, api.ErrParent},
		{"another state", func(m *api.Motion) { m.Block.Header.State++ }, api.ErrRoot},
		{"a transaction that can't stand there", func(m *api.Motion) { m.Block.Txs[0].Nonce = 1 }, api.ErrNonce},
		{"other transactions under a header", func(m *api.Motion) { m.Block.Txs = nil }, api.ErrRoot},
	}
}

func TestMotionErrors(t *testing.T) {
	tip := begin(t, four())
	for _, x := range motionFaults(t, tip) {
		for _, known := range []bool{false, true} {
			c := court.New(tip, 3)
			c.Begin()
			if known { // that its block is known, as it should be, helps nobody
				c.Motion(moves(t, tip, 0, "A1"))
			}
			m := moves(t, tip, 0, "A1")
			x.how(&m)
			stays(t, x.what, c, func() {
				if l, g, e := c.Motion(m); len(l) > 0 || g != (api.Guilt{}) || e != x.want {
					t.Errorf("R7: Motion, %s (known: %t): %v %v %d, not %d", x.what, known, l, g, e, x.want)
				}
			})
		}
	}
	for _, m := range []api.Motion{
		moves(t, tip, 0, "A1"),
		moves(t, tip, 16, "A1"),
		moves(t, tip, 5, "A1", certOf(t, tip, 3, api.First, "A1", "123")),
		moves(t, tip, 5, "A4", certOf(t, tip, 0, api.First, "A4", "1234")),
		moves(t, tip, 1, "B3", certOf(t, tip, 0, api.First, "B3", "124")),
	} {
		c := court.New(tip, 3)
		c.Begin()
		if _, _, e := c.Motion(m); e != api.OK {
			t.Errorf("R7: Motion(%v): %d", m, e)
		}
	}
}

func TestMotionsOfOneRound(t *testing.T) {
	plays(t, "R7: a motion's block is known, though it is not the round's motion", `
		new 3
		begin: @0.0
		motion 0 A1: voted(0 1 A1 3) @0.1
		motion 0 B1: guilt(0 0 A1 1) (0 0 B1 1) error 23 @0.1
		says: vote(0 0 A1 1) vote(0 1 A1 3) motion(0 A1 1)
		vote 0 2 B1 1: @0.1
		vote 0 2 B1 2: @0.1
		vote 0 2 B1 4: closed(0 2 B1 124) @0.1
	`)
	plays(t, "R7: with an error of Add, too, what follows is done", `
		new 3
		begin: @0.0
		motion 0 A1: voted(0 1 A1 3) @0.1
		vote 0 1 B1 1: @0.1
		vote 0 1 B1 2: @0.1
		vote 0 1 B1 4: @0.1
		motion 0 B1: locked(0 1 B1 124) voted(0 2 B1 3) guilt(0 0 A1 1) (0 0 B1 1) error 23 @0.2
	`)
	plays(t, "R7: what was moved ahead of a fall gives way to what is counted", `
		new 1
		redo moved 0 A1 1: @-1.0
		motion 0 B1: @-1.0
		begin: voted(0 1 B1 1) @0.1
	`)
}

func knownFaults(t *testing.T, tip block.Tip) []faulty[api.Known] {
	return []faulty[api.Known]{
		{"a round below 0", func(k *api.Known) { k.Cert.Round = -1 }, api.ErrLimit},
		{"too many", func(k *api.Known) { k.Cert.Froms = []int{1, 2, 3, 4, 5, 6, 7, 8} }, api.ErrLimit},
		{"no stage", func(k *api.Known) { k.Cert.Stage = api.Moves }, api.ErrForm},
		{"voters who do not rise", func(k *api.Known) { k.Cert.Froms = []int{1, 3, 2} }, api.ErrForm},
		{"voters who do not rise, another height", func(k *api.Known) { k.Cert.Froms, k.Block.Header.Height = []int{1, 3, 2}, 2 }, api.ErrForm},
		{"a transaction that may not be", func(k *api.Known) { k.Block.Txs = make([]api.Tx, 1) }, api.ErrForm},
		{"a block of another height", func(k *api.Known) { k.Block.Header.Height = 2 }, api.ErrHeight},
		{"a cert of another height", func(k *api.Known) { k.Cert.Height = 2 }, api.ErrHeight},
		{"both of another height", func(k *api.Known) { k.Cert.Height, k.Block.Header.Height = 2, 2 }, api.ErrHeight},
		{"another height, for none", func(k *api.Known) { k.Cert.Height, k.Cert.Has, k.Cert.Block = 0, false, 0 }, api.ErrHeight},
		{"for none", func(k *api.Known) { k.Cert.Has, k.Cert.Block = false, 0 }, api.ErrRoot},
		{"for another block", func(k *api.Known) { k.Cert.Block++ }, api.ErrRoot},
		{"for another block, of too few", func(k *api.Known) { k.Block, k.Cert.Froms = made(t, tip, "B1"), nil }, api.ErrRoot},
		{"of one without a seat", func(k *api.Known) { k.Cert.Froms = []int{1, 2, 3, 9} }, api.ErrSeat},
		{"of too few", func(k *api.Known) { k.Cert.Froms = []int{2, 4} }, api.ErrWeight},
		{"of nobody", func(k *api.Known) { k.Cert.Froms = nil }, api.ErrWeight},
		{"of too few, a block that is not taken", func(k *api.Known) { k.Cert.Froms, k.Block.Txs = []int{2, 4}, nil }, api.ErrWeight},
		{"other transactions under a header", func(k *api.Known) { k.Block.Txs = nil }, api.ErrRoot},
		{"another chain", func(k *api.Known) {
			k.Block.Header.Chain = 9
			k.Cert.Block = tip.Name(k.Block.Header)
		}, api.ErrParent},
		{"one without a seat proposed it", func(k *api.Known) {
			k.Block.Header.Proposer = 9
			k.Cert.Block = tip.Name(k.Block.Header)
		}, api.ErrSeat},
	}
}

func TestKnownErrors(t *testing.T) {
	tip := begin(t, four())
	for _, x := range knownFaults(t, tip) {
		for stage := api.First; stage <= api.Second; stage++ {
			for _, known := range []bool{false, true} {
				c := court.New(tip, 3)
				c.Begin()
				if known {
					c.Motion(moves(t, tip, 0, "A1"))
				}
				k := knownOf(t, tip, 0, stage, "A1", "124")
				x.how(&k)
				stays(t, x.what, c, func() {
					if l, e := c.Known(k); len(l) > 0 || e != x.want {
						t.Errorf("R7: Known, %s (stage %d, known: %t): %v %d, not %d", x.what, stage, known, l, e, x.want)
					}
				})
			}
		}
	}
}

func TestKnown(t *testing.T) {
	plays(t, "R7: of First all its votes are counted, whatever the round", `
		new 4
		begin: @0.0
		vote 98 1 A2 1: error 20 @0.0
		known 98 1 A2 123: locked(98 1 A2 123) voted(98 2 A2 4) @98.2
		vote 98 1 - 1: guilt(98 1 A2 1) (98 1 - 1) error 23 @98.2
		vote 98 1 A2 2: error 31 @98.2
		vote 114 1 - 1: @98.2
		vote 115 1 - 1: error 20 @98.2
	`)
	plays(t, "R7: of one who voted otherwise the first vote stays", `
		new 4
		begin: @0.0
		vote 0 1 - 1: @0.0
		known 0 1 A1 123: @0.0
		says: vote(0 1 - 1) vote(0 1 A1 2) vote(0 1 A1 3)
		motion 0 A1: voted(0 1 A1 4) locked(0 1 A1 234) voted(0 2 A1 4) @0.2
	`)
	plays(t, "R7: its block is known", `
		new 4
		begin: @0.0
		vote 0 1 - 1: @0.0
		known 0 1 A1 123: @0.0
		vote 0 2 A1 1: @0.0
		vote 0 2 A1 2: @0.0
		vote 0 2 A1 3: closed(0 2 A1 123) @0.0
	`)
	plays(t, "R7: of Second it is done, whatever the round, with that cert", `
		new 4
		begin: @0.0
		vote 0 2 A1 1: @0.0
		vote 0 2 A1 2: @0.0
		vote 0 2 A1 3: @0.0
		known 99 2 A1 1234: closed(99 2 A1 1234) @0.0
		known 98 2 A1 123: @0.0
		done: known(99 2 A1 1234)
	`)
	plays(t, "R7: the votes of one of Second are not counted", `
		new 4
		known 2 2 A1 123: closed(2 2 A1 123) @-1.0
		vote 2 2 A1 1: @-1.0
		vote 2 2 B1 2: @-1.0
	`)
}

// TestNoneIsNoBlock: where digests are short a block's Name may be 0, which is what a cert for none has there.
func TestNoneIsNoBlock(t *testing.T) {
	g := four()
	g.Width = 1
	tip := begin(t, g)
	var b api.Block
	for n := 0; n == 0 || tip.Name(b.Header) != 0; n++ {
		if n > 8000 {
			t.Fatal("no block has the Name 0")
		}
		b, _ = tip.Make(1, []api.Tx{pay(n)}, nil)
	}
	none := api.Cert{Height: 1, Stage: api.First, Froms: []int{1, 2, 3}}
	c := court.New(tip, 3)
	c.Begin()
	if _, e := c.Known(api.Known{Cert: none, Block: b}); e != api.ErrRoot {
		t.Errorf("R7: Known, of a cert for none, of a block whose Name is 0: %d", e)
	}
	if _, _, e := c.Motion(api.Motion{Round: 4, From: 1, Block: b, Basis: []api.Cert{none}}); e != api.ErrRoot {
		t.Errorf("R7: Motion, on a cert for none, of a block whose Name is 0: %d", e)
	}
	none.Has = true
	if _, e := c.Known(api.Known{Cert: none, Block: b}); e != api.OK {
		t.Errorf("R7: Known, of a block whose Name is 0: %d", e)
	}
}
