package world_test

import (
	"fmt"
	"math"
	"testing"

	"assize/api"
	"assize/block"
	"assize/world"
)

func TestLieRefuses(t *testing.T) {
	long := make([]api.Vote, api.MaxVotes+1)
	for i := range long {
		long[i] = ballot(4, i, 1)
	}
	forged := []api.Vote{ballot(2, 0, 1)}
	for _, c := range []struct {
		what string
		m    api.Message
		want api.Errno
	}{
		{"from nobody", api.Message{}, api.ErrForm},
		{"from below 0", api.Message{From: -4}, api.ErrLimit},
		{"to below 0", api.Message{From: 4, To: -1}, api.ErrLimit},
		{"too great a height", api.Message{From: 4, Height: top + 1}, api.ErrLimit},
		{"the least height", api.Message{From: 4, Height: math.MinInt}, api.ErrLimit},
		{"too many votes", api.Message{From: 4, Votes: long}, api.ErrLimit},
		{"a vote that may not be", api.Message{From: 4, Votes: []api.Vote{{Stage: 7, From: 4}}}, api.ErrForm},
		{"what may not be, of one who is no liar", api.Message{From: 1, Votes: []api.Vote{{Stage: 7, From: 4}}}, api.ErrForm},
		{"what may not be, and is forged", api.Message{From: 4, Votes: []api.Vote{ballot(2, 0, 1), {}}}, api.ErrForm},
		{"one who is no liar", api.Message{From: 1, Height: 1}, api.ErrSeat},
		{"one without a node", api.Message{From: 50, Height: 1}, api.ErrSeat},
		{"somebody", api.Message{From: 9, Height: 1}, api.ErrSeat},
		{"one who is no liar, what is forged", api.Message{From: 1, Height: 1, Votes: forged}, api.ErrSeat},
		{"forged", api.Message{From: 4, Height: 1, Votes: forged}, api.ErrForge},
		{"forged, to nobody", api.Message{From: 4, To: 4, Height: 1, Votes: forged}, api.ErrForge},
	} {
		w := begun(t, six(), 4)
		says(t, "X5: Lie: "+c.what, w.Lie(c.m), c.want)
		onWay(t, "X5: Lie: "+c.what, w, "1 2", "1 3", "1 4")
	}
	says(t, "X5: Lie where nobody lies", begun(t, six()).Lie(api.Message{From: 4}), api.ErrSeat)
}

func TestWhereLiesGo(t *testing.T) {
	for _, c := range []struct {
		to   int
		want []string
	}{
		{0, []string{"2 1", "2 3", "2 4"}}, {1, []string{"2 1"}}, {3, []string{"2 3"}}, {4, []string{"2 4"}},
		{2, nil}, {5, nil}, {50, nil}, {top, nil},
	} {
		w := begun(t, six(), 4, 2)
		dropAll(w)
		m := api.Message{From: 2, To: c.to, Height: 9, Votes: []api.Vote{ballot(2, 3, 7), ballot(4, 3, 8)}, Txs: []api.Tx{}}
		says(t, "X5: Lie", w.Lie(m), api.OK)
		onWay(t, fmt.Sprintf("X5: Lie to %d", c.to), w, c.want...)
		for _, got := range way(t, w) {
			m.To = got.To
			if !same(got, m) {
				t.Errorf("X5: %v is on its way, not %v", got, m)
			}
		}
	}
}

func TestALiarWhoseNodeIsDownLies(t *testing.T) {
	w := begun(t, six(), 4)
	dropAll(w)
	w.Stop(4, 0, 0)
	says(t, "X5: Lie", w.Lie(api.Message{From: 4, Height: 1, Votes: []api.Vote{ballot(4, 0, 1), ballot(4, 0, 2)}}), api.OK)
	onWay(t, "X5: Lie", w, "4 1", "4 2", "4 3")
	w.Net(api.Deliver, 1)
	if got := up(t, w, 2).Guilts(); len(got) != 1 || got[0].A.From != 4 {
		t.Errorf("X5: what is taken proves %v", got)
	}
}

// At the beginning 1, who is honest, has moved its block, and voted for it; 2
// and 3, who are honest too, have said nothing. 4 lies. 50 has signed pay(0).
type beginning struct {
	tip   block.Tip
	block api.Block // which 1 has moved
	name  api.Digest
}

func newBeginning(t *testing.T) beginning {
	tip := tipOf(t, six())
	b := made(t, tip, 1)
	return beginning{tip, b, tip.Name(b.Header)}
}

func (x beginning) world(t *testing.T) *world.World {
	w := begun(t, six(), 4)
	dropAll(w)
	says(t, "X2: Submit", w.Submit(2, pay(0)), api.OK)
	return w
}

// by is a block of 4, with these in it: under whatever header.
func by(txs []api.Tx, guilts ...api.Guilt) api.Block {
	return api.Block{Header: api.Header{Chain: 1, Height: 1, Proposer: 4}, Txs: txs, Guilts: guilts}
}

func cert(v api.Vote, froms ...int) api.Cert {
	return api.Cert{Height: v.Height, Round: v.Round, Stage: v.Stage, Has: v.Has, Block: v.Block, Froms: froms}
}

// unlike are votes that differ from v in one thing each.
func unlike(v api.Vote) []api.Vote {
	var l []api.Vote
	for _, how := range []func(*api.Vote){
		func(v *api.Vote) { v.Height++ },
		func(v *api.Vote) { v.Round++ },
		func(v *api.Vote) { v.Stage = api.Second },
		func(v *api.Vote) { v.Has, v.Block = false, 0 },
		func(v *api.Vote) { v.Block++ },
		func(v *api.Vote) { v.From = 2 },
		func(v *api.Vote) { v.From = 50 },
		func(v *api.Vote) { v.From = 9 },
		func(v *api.Vote) { v.From = top },
	} {
		u := v
		how(&u)
		l = append(l, u)
	}
	return l
}

// wraps are the places of a message where a vote may stand.
func wraps() map[string]func(v api.Vote) api.Message {
	mine := ballot(4, 0, 3)
	return map[string]func(v api.Vote) api.Message{
		"a vote":      func(v api.Vote) api.Message { return api.Message{Votes: []api.Vote{v}} },
		"a last vote": func(v api.Vote) api.Message { return api.Message{Votes: []api.Vote{mine, ballot(4, 1, 3), v}} },
		"a basis": func(v api.Vote) api.Message {
			return api.Message{Motions: []api.Motion{{Round: 3, From: 4, Block: by(nil), Basis: []api.Cert{cert(v, v.From)}}}}
		},
		"a known's cert": func(v api.Vote) api.Message {
			return api.Message{Knowns: []api.Known{{Cert: cert(mine, 4), Block: by(nil)}, {Cert: cert(v, v.From), Block: by(nil)}}}
		},
		"the first of a guilt, in a motion": func(v api.Vote) api.Message {
			return api.Message{Motions: []api.Motion{{From: 4, Block: by(nil)}, {From: 4, Block: by(nil, api.Guilt{A: v, B: mine})}}}
		},
		"the second of a guilt, in a motion": func(v api.Vote) api.Message {
			return api.Message{Motions: []api.Motion{{From: 4, Block: by(nil, api.Guilt{A: mine, B: mine}, api.Guilt{A: mine, B: v})}}}
		},
		"the first of a guilt, in a known": func(v api.Vote) api.Message {
			return api.Message{Knowns: []api.Known{{Cert: cert(mine), Block: by(nil, api.Guilt{A: v, B: mine})}}}
		},
		"the second of a guilt, in a known": func(v api.Vote) api.Message {
			return api.Message{Knowns: []api.Known{{Cert: cert(mine), Block: by(nil, api.Guilt{A: mine, B: v})}}}
		},
	}
}

func TestVotesThatNobodySaid(t *testing.T) {
	x := newBeginning(t)
	w := x.world(t)
	said := ballot(1, 0, x.name)
	for where, wrap := range wraps() {
		for _, v := range unlike(said) {
			m := wrap(v)
			m.From = 4
			says(t, fmt.Sprintf("X5: Lie: %s: %v", where, v), w.Lie(m), api.ErrForge)
		}
		if w.Way() != 0 {
			t.Fatalf("X5: what is forged is on its way: %q", addressed(t, w))
		}
		for _, v := range append(unlike(ballot(4, 0, 5))[:5], said, ballot(4, 0, 6)) {
			m := wrap(v)
			m.From = 4
			says(t, fmt.Sprintf("X5: Lie: %s: %v", where, v), w.Lie(m), api.OK)
		}
		dropAll(w)
	}
}

func TestCertsOfSome(t *testing.T) {
	x := newBeginning(t)
	w := x.world(t)
	said := ballot(1, 0, x.name)
	for _, c := range []struct {
		froms []int
		want  api.Errno
	}{
		{nil, api.OK}, {[]int{1}, api.OK}, {[]int{1, 4}, api.OK}, {[]int{4}, api.OK},
		{[]int{1, 2}, api.ErrForge}, {[]int{1, 2, 4}, api.ErrForge}, {[]int{3, 4}, api.ErrForge}, {[]int{1, 4, 9}, api.ErrForge},
	} {
		says(t, fmt.Sprintf("X5: a known by %v", c.froms), w.Lie(api.Message{From: 4, Knowns: []api.Known{{Cert: cert(said, c.froms...), Block: x.block}}}), c.want)
		says(t, fmt.Sprintf("X5: a basis of %v", c.froms), w.Lie(api.Message{From: 4, Motions: []api.Motion{{Round: 3, From: 4, Block: x.block, Basis: []api.Cert{cert(said, c.froms...)}}}}), c.want)
	}
}

func TestMotionsThatNobodyMade(t *testing.T) {
	x := newBeginning(t)
	other := x.block
	other.Header.Proposer = 2
	for _, c := range []struct {
		what string
		m    api.Motion
		want api.Errno
	}{
		{"what 1 moved", api.Motion{From: 1, Block: x.block}, api.OK},
		{"what 1 moved, as a liar's", api.Motion{From: 4, Block: x.block}, api.OK},
		{"a liar's", api.Motion{Round: 7, From: 4, Block: other}, api.OK},
		{"another round", api.Motion{Round: 1, From: 1, Block: x.block}, api.ErrForge},
		{"another block", api.Motion{From: 1, Block: other}, api.ErrForge},
		{"another height", api.Motion{From: 1, Block: api.Block{Header: api.Header{Chain: 1, Height: 2, Proposer: 1}}}, api.ErrForge},
		{"of one who said nothing", api.Motion{From: 2, Block: x.block}, api.ErrForge},
		{"of nobody", api.Motion{From: 9, Block: x.block}, api.ErrForge},
		// By Moving it is what 1 moved: a header stands for what is in a block.
		{"what 1 moved, with a basis", api.Motion{From: 1, Block: x.block, Basis: []api.Cert{cert(ballot(4, 0, 1), 4)}}, api.OK},
		{"what 1 moved, with what was signed", api.Motion{From: 1, Block: api.Block{Header: x.block.Header, Txs: []api.Tx{pay(0)}}}, api.OK},
		{"what 1 moved, with what was not signed", api.Motion{From: 1, Block: api.Block{Header: x.block.Header, Txs: []api.Tx{pay(1)}}}, api.ErrForge},
	} {
		w := x.world(t)
		says(t, "X5: a motion: "+c.what, w.Lie(api.Message{From: 4, Motions: []api.Motion{c.m}}), c.want)
		says(t, "X5: a second motion: "+c.what, w.Lie(api.Message{From: 4, Motions: []api.Motion{{From: 4, Block: by(nil)}, c.m}}), c.want)
	}
	// The vote that the motion is may stand alone, too; and not one that is unlike.
	w := x.world(t)
	moving := api.Vote{Height: 1, Stage: api.Moves, Has: true, Block: x.name, From: 1}
	says(t, "X5: what a motion is", w.Lie(api.Message{From: 4, Votes: []api.Vote{moving}}), api.OK)
	moving.Block++
	says(t, "X5: what no motion is", w.Lie(api.Message{From: 4, Votes: []api.Vote{moving}}), api.ErrForge)
}

func TestTransactionsThatNobodySigned(t *testing.T) {
	x := newBeginning(t)
	w := x.world(t)
	own := pay(3)
	own.From = 4
	signed := []api.Tx{pay(0), own}
	var not []api.Tx
	for _, how := range []func(*api.Tx){
		func(t *api.Tx) { t.From = 1 },
		func(t *api.Tx) { t.From = 9 },
		func(t *api.Tx) { t.Nonce++ },
		func(t *api.Tx) { t.Price++ },
		func(t *api.Tx) { t.Limit++ },
		func(t *api.Tx) { t.To = 4 },
		func(t *api.Tx) { t.Amount++ },
		func(t *api.Tx) { t.Kind = api.Send },
		func(t *api.Tx) { t.Kind, t.Text = api.Call, "f" },
	} {
		u := pay(0)
		how(&u)
		not = append(not, u)
	}
	mine := cert(ballot(4, 0, 1), 4)
	for where, wrap := range map[string]func(l []api.Tx) api.Message{
		"a message": func(l []api.Tx) api.Message { return api.Message{Txs: l} },
		"a motion":  func(l []api.Tx) api.Message { return api.Message{Motions: []api.Motion{{From: 4, Block: by(l)}}} },
		"a second motion": func(l []api.Tx) api.Message {
			return api.Message{Motions: []api.Motion{{From: 4, Block: by(nil)}, {From: 4, Block: by(l)}}}
		},
		"a known": func(l []api.Tx) api.Message { return api.Message{Knowns: []api.Known{{Cert: mine, Block: by(l)}}} },
	} {
		for _, u := range not {
			for _, l := range [][]api.Tx{{u}, {pay(0), own, u}} {
				m := wrap(l)
				m.From = 4
				says(t, fmt.Sprintf("X5: Lie: %s with %v", where, l), w.Lie(m), api.ErrForge)
			}
		}
		m := wrap(signed)
		m.From = 4
		says(t, fmt.Sprintf("X5: Lie: %s with %v", where, signed), w.Lie(m), api.OK)
	}
}

func TestSignedWhateverBecomesOfIt(t *testing.T) {
	poor := pay(0)
	poor.Price = 600
	wrong := pay(0)
	wrong.Amount = -1
	for _, c := range []struct {
		what      string
		who       int
		t         api.Tx
		says, lie api.Errno
	}{
		{"to a node", 1, pay(0), api.OK, api.OK},
		{"to nobody", 9, pay(0), api.ErrSeat, api.OK},
		{"to one that is down", 3, pay(0), api.ErrDown, api.OK},
		{"the node says no", 1, poor, api.ErrFunds, api.OK},
		{"it may not be", 1, wrong, api.ErrLimit, api.ErrLimit},
	} {
		w := begun(t, six(), 4)
		w.Stop(3, 0, 0)
		if c.lie == api.OK {
			says(t, "X5: ahead of Submit "+c.what, w.Lie(api.Message{From: 4, Txs: []api.Tx{c.t}}), api.ErrForge)
		}
		says(t, "X2: Submit "+c.what, w.Submit(c.who, c.t), c.says)
		says(t, "X5: behind Submit "+c.what, w.Lie(api.Message{From: 4, Txs: []api.Tx{c.t}}), c.lie)
	}
}

func TestWhatWasSaidIsSaidFromThenOn(t *testing.T) {
	x := newBeginning(t)
	w := begun(t, six(), 4)
	v := ballot(2, 0, x.name)
	lie := func() api.Errno { return w.Lie(api.Message{From: 4, To: 4, Votes: []api.Vote{v}}) }
	says(t, "X5: ahead of its vote", lie(), api.ErrForge)
	w.Net(api.Deliver, 0)
	says(t, "X5: behind its vote", lie(), api.OK)
	dropAll(w)
	says(t, "X5: though nobody heard it", lie(), api.OK)
	w.Stop(2, 0, 0)
	says(t, "X5: though it is down", lie(), api.OK)
	w.Begin(2)
	w.Calm(9)
	says(t, "X5: long behind it", lie(), api.OK)
}

func TestWhatWasRecordedIsNotSentYet(t *testing.T) {
	x := newBeginning(t)
	w := begun(t, six(), 4)
	v := ballot(2, 0, x.name)
	lie := func() api.Errno { return w.Lie(api.Message{From: 4, To: 4, Votes: []api.Vote{v}}) }
	w.Stop(2, 2, 1000)
	w.Net(api.Deliver, 0)
	isDown(t, "X4: within its vote", w, 2)
	says(t, "X5: what was recorded was not sent", lie(), api.ErrForge)
	w.Begin(2)
	at(t, "X4: what was recorded stands", w, 2, 0, 0, 1)
	says(t, "X5: nor with its beginning", lie(), api.ErrForge)
	w.Tick(2)
	says(t, "X5: but with its next tick", lie(), api.OK)
}

func TestWhatIsLostWasSaid(t *testing.T) {
	x := newBeginning(t)
	w := begun(t, six(), 4)
	fill(t, w)
	w.Tick(0)
	for range 2 {
		w.Tick(0) // the clock is over: 2 and 3 vote for none; there is no room for that
	}
	at(t, "X3: the clock is over", w, 2, 0, 0, 1)
	none := api.Vote{Height: 1, Stage: api.First, From: 2}
	says(t, "X5: what is lost was sent", w.Lie(api.Message{From: 4, Votes: []api.Vote{none}}), api.OK)
	says(t, "X5: what was never sent", w.Lie(api.Message{From: 4, Votes: []api.Vote{ballot(2, 0, x.name)}}), api.ErrForge)
}

func TestWhatNodesSendWasSaid(t *testing.T) {
	// A transaction that came to a node itself, not by the world's Submit.
	w := begun(t, six(), 4)
	says(t, "U3: Submit", up(t, w, 2).Submit(pay(0)), api.OK)
	lie := func() api.Errno { return w.Lie(api.Message{From: 4, To: 4, Txs: []api.Tx{pay(0)}}) }
	says(t, "X5: ahead of its being sent", lie(), api.ErrForge)
	w.Tick(2)
	says(t, "X5: behind it", lie(), api.OK)
}

func TestALiarsOwnNodeMaySayAnything(t *testing.T) {
	w := begun(t, six(), 1, 2, 3, 4)
	v := api.Vote{Height: 1, Stage: api.Second, Has: true, Block: 5}
	var l []api.Vote
	for who := 1; who <= 4; who++ {
		v.From = who
		l = append(l, v)
	}
	says(t, "X5: of liars", w.Lie(api.Message{From: 3, Votes: l, Knowns: []api.Known{{Cert: cert(v, 1, 2, 3, 4), Block: by(nil)}}}), api.OK)
	v.From = 50
	says(t, "X5: of one who is none", w.Lie(api.Message{From: 3, Votes: append(l, v)}), api.ErrForge)
}

func TestWhatIsHonestGoesRoundByLiars(t *testing.T) {
	// What the others said a liar may say once more: all of it was said.
	w := begun(t, six(), 4)
	w.Submit(1, pay(0))
	w.Submit(2, pay(1))
	lies := 0
	for range 6 {
		w.Tick(0)
		for i := 0; w.Way() > 0; i++ {
			m, _ := w.Peek(0)
			m.From, m.To = 4, 4
			says(t, fmt.Sprintf("X5: what %v says", m), w.Lie(m), api.OK)
			lies++
			w.Net(api.Deliver, 0)
		}
	}
	if tip := lastTip(up(t, w, 1)); lies < 100 || account(tip, 50).Nonce != 2 {
		t.Errorf("there were %d lies, and 50 has %v", lies, account(tip, 50))
	}
}

func TestASightIsItsSendersWord(t *testing.T) {
	// What a transaction shows of the other ledger is no vote of those who keep this one.
	w := begun(t, six(), 4)
	s := api.Sight{Header: api.Header{Chain: 2, Height: 1}, Cert: cert(ballot(4, 0, 1), 1, 2, 3), Seats: []api.Seat{{Who: 1, Weight: 1}}}
	show := api.Tx{Kind: api.Show, From: 4, Limit: 64, Sights: []api.Sight{s}}
	says(t, "X5: a liar shows", w.Lie(api.Message{From: 4, Txs: []api.Tx{show}}), api.OK)
	show.From = 50
	says(t, "X5: another does not", w.Lie(api.Message{From: 4, Txs: []api.Tx{show}}), api.ErrForge)
	says(t, "X2: until it is signed", w.Submit(9, show), api.ErrSeat)
	says(t, "X5: then it does", w.Lie(api.Message{From: 4, Txs: []api.Tx{show}}), api.OK)
}
