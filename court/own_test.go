package court_test

import (
	"math"
	"testing"

	"assize/api"
	"assize/block"
	"assize/court"
)

// twice proves that somebody voted twice.
func twice(who int) api.Guilt {
	a := api.Vote{Height: 1, Round: 1, Stage: api.First, Has: true, Block: 1, From: who}
	b := a
	b.Block = 2
	return api.Guilt{A: a, B: b}
}

func TestFill(t *testing.T) {
	tip, c := newCourt(t, 1)
	txs := []api.Tx{{Kind: 99, From: 50}, pay(-1), {Kind: api.Pay, From: 50, Nonce: 5, Limit: 16, To: 1}, pay(1)}
	guilts := []api.Guilt{{}, twice(4), twice(4), twice(9)}
	want, _ := tip.Make(1, txs, guilts)
	if len(want.Txs) != 1 || len(want.Guilts) != 1 {
		t.Fatalf("the block that is wanted has %d transactions and %d guilts", len(want.Txs), len(want.Guilts))
	}
	c.Fill(txs, guilts)
	txs[3].Amount, guilts[1].A.From, guilts[2].A.From = 9, 3, 3
	l := c.Begin()
	if len(l) != 2 || !sameRecord(l[0], api.Record{Kind: api.Moved, Motion: api.Motion{From: 1, Block: want}}) {
		t.Errorf("R1, P2: what is moved is %v, not %v", l, want)
	}
	c = court.New(tip, 1)
	c.Fill([]api.Tx{pay(1)}, []api.Guilt{twice(4)})
	c.Fill(nil, nil)
	l = c.Begin()
	if len(l) != 2 || !sameRecord(l[0], api.Record{Kind: api.Moved, Motion: api.Motion{From: 1, Block: made(t, tip, "E1")}}) {
		t.Errorf("R1: when it is filled with nothing %v is moved", l)
	}
}

// seven is a ledger with as many seats as a bench may have.
func seven() api.Genesis {
	g := four()
	g.Starts[4].Bond = 1
	for who := 60; who < 62; who++ {
		g.Starts = append(g.Starts, api.Start{Who: who, Bond: 1})
	}
	return g
}

func TestSaysNoMoreThanAMessageHas(t *testing.T) {
	tip := begin(t, seven())
	c := court.New(tip, 0)
	// One that has not begun says the votes of all rounds: here of 16 rounds at 3 stages.
	for round := range 16 {
		for stage := api.Moves; stage <= api.Second; stage++ {
			for _, s := range tip.Bench() {
				v := api.Vote{Height: 1, Round: round, Stage: stage, Has: true, Block: 5, From: s.Who}
				if _, _, e := c.Vote(v); e != api.OK {
					t.Fatalf("Vote(%v): %d", v, e)
				}
			}
		}
	}
	if got := c.Says().Votes; len(got) != 16*3*7 {
		t.Errorf("R9: of 16 rounds %d votes are said", len(got))
	}
	known := api.Known{Cert: api.Cert{Height: 1, Stage: api.First, Has: true}, Block: made(t, tip, "A1")}
	known.Cert.Block = tip.Name(known.Block.Header)
	for _, s := range tip.Bench() {
		known.Cert.Froms = append(known.Cert.Froms, s.Who)
	}
	for round := 16; round < 60; round++ {
		known.Cert.Round = round
		if _, e := c.Known(known); e != api.OK {
			t.Fatalf("Known of the round %d: %d", round, e)
		}
	}
	got := c.Says().Votes
	if len(got) != api.MaxVotes || got[0].Round != 0 {
		t.Fatalf("R9: %d votes are said, from the round %d on", len(got), got[0].Round)
	}
	// 336 votes of 16 rounds, and 7 of each later one: the last one is the first of the round 41.
	if last := got[len(got)-1]; last.Round != 41 || last.From != 1 {
		t.Errorf("R9: the last vote that is said is %v", last)
	}
	c.Begin()
	if got := c.Says().Votes; len(got) != 2*7 || got[0].Round != 58 {
		t.Errorf("R9: in the round 59 %v are said", got)
	}
}

// spoil changes all that a message's lists have.
func spoil(m api.Message) {
	for i := range m.Votes {
		m.Votes[i] = api.Vote{}
	}
	for _, x := range m.Motions {
		spoilBlock(x.Block)
		for i := range x.Basis {
			clear(x.Basis[i].Froms)
		}
		clear(x.Basis)
	}
	spoilKnowns(m.Knowns)
}

func spoilBlock(b api.Block) {
	clear(b.Txs)
	clear(b.Guilts)
}

func spoilKnowns(l []api.Known) {
	for i := range l {
		clear(l[i].Cert.Froms)
		spoilBlock(l[i].Block)
	}
	clear(l)
}

func spoilRecords(l []api.Record) {
	for _, x := range l {
		spoil(api.Message{Motions: []api.Motion{x.Motion}, Knowns: []api.Known{x.Known}})
	}
}

func TestCourtsAreTheirOwn(t *testing.T) {
	tip, c := newCourt(t, 2)
	c.Begin()
	m := moves(t, tip, 0, "A1")
	spoilRecords(answer(c.Motion(m)))
	spoilBlock(m.Block)
	k := knownOf(t, tip, 0, api.First, "A1", "134")
	l, e := c.Known(k)
	if e != api.OK || len(l) != 2 {
		t.Fatalf("Known: %v %d", l, e)
	}
	spoilRecords(l)
	spoilKnowns([]api.Known{k})
	want := knownOf(t, tip, 0, api.First, "A1", "1234")
	if got := c.Locked(); !sameKnowns(got, []api.Known{want}) {
		t.Fatalf("P2: what it holds on to is %v", got)
	}
	spoilKnowns(c.Locked())
	one, other := c.Says(), c.Says()
	spoil(one)
	if !sameMessage(other, c.Says()) || len(other.Motions) != 1 || len(other.Knowns) != 1 || !sameKnowns(other.Knowns, []api.Known{want}) {
		t.Fatalf("P2: what is said is %v", other)
	}
	// Into the round 1, which it leads.
	c.Vote(ballot(t, tip, 1, api.Second, "-", 3))
	l = answer(c.Vote(ballot(t, tip, 1, api.Second, "-", 4)))
	if len(l) != 2 || l[0].Kind != api.Moved || !sameKnowns([]api.Known{{Cert: l[0].Motion.Basis[0], Block: l[0].Motion.Block}}, []api.Known{want}) {
		t.Fatalf("P2: what is moved is %v", l)
	}
	spoilRecords(l)
	if got := c.Says().Motions; len(got) != 1 || !sameKnowns([]api.Known{{Cert: got[0].Basis[0], Block: got[0].Block}}, []api.Known{want}) {
		t.Fatalf("P2: the motion that is said is %v", got)
	}
	last := knownOf(t, tip, 1, api.Second, "A1", "134")
	l, _ = c.Known(last)
	spoilRecords(l)
	spoilKnowns([]api.Known{last})
	spoilKnowns(c.Done())
	spoil(c.Says())
	if got := c.Done(); !sameKnowns(got, []api.Known{knownOf(t, tip, 1, api.Second, "A1", "134")}) {
		t.Errorf("P2: it is done with %v", got)
	}
}

func answer(l []api.Record, _ api.Guilt, _ api.Errno) []api.Record { return l }

func TestRedoKeepsNothingOfOthers(t *testing.T) {
	tip, c := newCourt(t, 4)
	lock := api.Record{Kind: api.Locked, Known: knownOf(t, tip, 1, api.First, "A1", "123")}
	moved := api.Record{Kind: api.Moved, Motion: moves(t, tip, 3, "A1", certOf(t, tip, 1, api.First, "A1", "123"))}
	c.Redo(lock)
	c.Redo(moved)
	spoilRecords([]api.Record{lock, moved})
	c.Begin()
	says := c.Says()
	if !sameKnowns(says.Knowns, []api.Known{knownOf(t, tip, 1, api.First, "A1", "123")}) {
		t.Errorf("P2: a record that was changed: %v is held on to", says.Knowns)
	}
	if len(says.Motions) != 1 || len(says.Motions[0].Basis) != 1 || len(says.Motions[0].Block.Txs) != 1 || says.Motions[0].Basis[0].Froms[2] != 3 {
		t.Errorf("P2: a record that was changed: %v is moved", says.Motions)
	}
}

func TestRedoOfOtherThings(t *testing.T) {
	tip := begin(t, four())
	vote := api.Record{Kind: api.Voted, Vote: ballot(t, tip, 2, api.First, "A1", 4)}
	moved := api.Record{Kind: api.Moved, Motion: moves(t, tip, 3, "A4")}
	lock := api.Record{Kind: api.Locked, Known: knownOf(t, tip, 1, api.First, "A1", "123")}
	but := func(x api.Record, how func(*api.Record)) api.Record {
		how(&x)
		return x
	}
	for _, x := range []struct {
		what string
		r    api.Record
	}{
		{"nothing", api.Record{}},
		{"no kind", api.Record{Kind: 5, Vote: vote.Vote}},
		{"a vote of another height", but(vote, func(x *api.Record) { x.Vote.Height = 2 })},
		{"another's vote", but(vote, func(x *api.Record) { x.Vote.From = 3 })},
		{"a vote that may not be", but(vote, func(x *api.Record) { x.Vote.Stage = 3 })},
		{"a vote of all numbers", but(vote, func(x *api.Record) { x.Vote.Round, x.Vote.Stage = math.MaxInt, math.MinInt })},
		{"a motion of another height", but(moved, func(x *api.Record) { x.Motion.Block.Header.Height = 2 })},
		{"another's motion", but(moved, func(x *api.Record) { x.Motion.From = 3 })},
		{"a motion of a round below 0", but(moved, func(x *api.Record) { x.Motion.Round = -1 })},
		{"a lock of another height", but(lock, func(x *api.Record) { x.Known.Cert.Height, x.Known.Block.Header.Height = 2, 2 })},
		{"closed", api.Record{Kind: api.Closed, Known: knownOf(t, tip, 0, api.Second, "A1", "123")}},
	} {
		c := court.New(tip, 4)
		c.Redo(x.r)
		if l := c.Begin(); len(l) > 0 {
			t.Errorf("R8: Redo, %s: at Begin %v is wanted", x.what, l)
		}
		round, step := c.Where()
		if !sameMessage(c.Says(), api.Message{Height: 1}) || round != 0 || step != 0 || len(c.Locked())+len(c.Done()) > 0 {
			t.Errorf("R8: Redo, %s: %v is said, in the round %d, step %d", x.what, c.Says(), round, step)
		}
	}
}

// TestRedoOfWhatIsNotTaken: a block that Take does not take is not known, though it was recorded.
func TestRedoOfWhatIsNotTaken(t *testing.T) {
	tip := begin(t, four())
	b := made(t, tip, "A4")
	b.Header.State++
	name := tip.Name(b.Header)
	for _, x := range []api.Record{
		{Kind: api.Moved, Motion: api.Motion{Round: 3, From: 4, Block: b}},
		{Kind: api.Locked, Known: api.Known{Cert: api.Cert{Height: 1, Stage: api.First, Has: true, Block: name, Froms: []int{1, 2, 3}}, Block: b}},
	} {
		c := court.New(tip, 4)
		c.Redo(x)
		c.Begin()
		for who := 1; who <= 3; who++ {
			c.Vote(api.Vote{Height: 1, Round: 3, Stage: api.Second, Has: true, Block: name, From: who})
		}
		if got := c.Done(); len(got) > 0 {
			t.Errorf("R1, R8: it is done with %v, which is not taken", got)
		}
	}
}

// TestCourtsOfNoLedger: a ledger that could not begin has no bench; nothing can be agreed on there.
func TestCourtsOfNoLedger(t *testing.T) {
	tip, _ := block.Begin(api.Genesis{})
	good := begin(t, four())
	for _, self := range []int{0, 1, math.MinInt, math.MaxInt} {
		c := court.New(tip, self)
		c.Fill([]api.Tx{pay(1)}, []api.Guilt{twice(1)})
		c.Redo(api.Record{Kind: api.Locked, Known: knownOf(t, good, 0, api.First, "A1", "123")})
		l := c.Begin()
		for range 9 {
			l = append(l, c.Tick()...)
		}
		_, _, e := c.Vote(ballot(t, good, 0, 1, "A1", 1))
		_, _, f := c.Motion(moves(t, good, 0, "A1"))
		_, g := c.Known(knownOf(t, good, 0, api.Second, "A1", "123"))
		if len(l) > 0 || e != api.ErrSeat || f != api.ErrSeat || g == api.OK || len(c.Done()) > 0 {
			t.Errorf("P1: a court of no ledger: %v %d %d %d %v", l, e, f, g, c.Done())
		}
	}
}

func TestRoundsBeyondAllLeaders(t *testing.T) {
	tip := begin(t, four())
	for _, self := range []int{0, 4} {
		c := court.New(tip, self)
		c.Begin()
		k := knownOf(t, tip, 70000, api.First, "A1", "123")
		l, e := c.Known(k)
		round, step := c.Where()
		if e != api.OK || round != 70000 || step != 2 || len(l) == 0 || l[0].Kind != api.Locked {
			t.Errorf("R3: in a round that nobody leads: %v %d, in the round %d, step %d", l, e, round, step)
		}
		k.Cert.Round = top
		c.Known(k)
		if _, _, e := c.Vote(ballot(t, tip, top+1, 1, "-", 1)); e != api.ErrLimit {
			t.Errorf("R7: a vote beyond the last round: %d", e)
		}
		if round, _ := c.Where(); round != top {
			t.Errorf("R5: the last of all rounds is %d", round)
		}
		c.Tick()
	}
}
