package ledger_test

import (
	"math"
	"slices"
	"testing"

	"assize/api"
	"assize/ledger"
	"assize/state"
	"assize/trie"
	"assize/wire"
)

// seats makes a list of who, weight, who, weight and so on.
func seats(l ...int) []api.Seat {
	var out []api.Seat
	for i := 0; i+1 < len(l); i += 2 {
		out = append(out, api.Seat{Who: l[i], Weight: l[i+1]})
	}
	return out
}

// sits asks for the bench of an epoch.
func sits(t *testing.T, what string, s *state.State, epoch int, want []api.Seat) {
	t.Helper()
	if got := ledger.Bench(s.Tree(), epoch); !slices.Equal(got, want) {
		t.Errorf("%s: the bench of the epoch %d is %v, not %v", what, epoch, got, want)
	}
}

func TestBenches(t *testing.T) {
	s := begun(t, nil)
	for epoch, l := range map[int][]api.Seat{0: seats(1, 1), 258: seats(2, 5, 9, top), top: seats(1, 1, 2, 1, 3, 1, 4, 1, 5, 1, 6, 1, 7, 1)} {
		if e := ledger.SetBench(s, epoch, l); e != api.OK {
			t.Errorf("G4: SetBench(%d, %v): %d", epoch, l, e)
		}
		sits(t, "G4", s, epoch, l)
		w, _ := wire.PutBench(l)
		if s.Get("b"+wire.Five(epoch)) != w {
			t.Errorf("G4: the bench of the epoch %d stands elsewhere", epoch)
		}
	}
	was := root(s)
	for _, epoch := range []int{math.MinInt, -1, top + 1, math.MaxInt} {
		sits(t, "G4: no epoch", s, epoch, nil)
		if e := ledger.SetBench(s, epoch, seats(1, 1)); e != api.ErrLimit {
			t.Errorf("G4: SetBench of the epoch %d: %d", epoch, e)
		}
		if e := ledger.SetBench(s, epoch, nil); e != api.ErrLimit {
			t.Errorf("G4: SetBench of the epoch %d, of none: %d", epoch, e)
		}
	}
	for _, c := range []struct {
		epoch int
		l     []api.Seat
		want  api.Errno
	}{
		{0, seats(2, 1, 1, 1), api.ErrForm}, {0, seats(1, 1, 1, 1), api.ErrForm}, {0, seats(0, 1), api.ErrForm}, {0, seats(1, 0), api.ErrForm},
		{-1, seats(2, 1, 1, 1), api.ErrForm}, {0, seats(1, -1), api.ErrLimit}, {0, seats(1, top+1), api.ErrLimit},
		{0, seats(1, 1, 2, 1, 3, 1, 4, 1, 5, 1, 6, 1, 7, 1, 8, 1), api.ErrLimit},
	} {
		if e := ledger.SetBench(s, c.epoch, c.l); e != c.want {
			t.Errorf("G4: SetBench(%d, %v): %d, not %d", c.epoch, c.l, e, c.want)
		}
	}
	if root(s) != was {
		t.Error("G4: what was refused has changed something")
	}
	ledger.SetBench(s, 258, nil)
	sits(t, "G4: none", s, 258, nil)
	if s.Get("b"+wire.Five(258)) != "" {
		t.Error("G4: a bench of none stands")
	}
	for _, bad := range []string{"x", "\x00", "\x01\x01", "\x01\x01\x00\x01\x01", "\x01\x01\x01\x01\x01\x01!"} {
		s.Set("b"+wire.Five(5), bad)
		sits(t, "G4: not so written", s, 5, nil)
	}
}

// twice is the guilt of one who voted for two blocks.
func twice(height, who int) api.Guilt {
	a := api.Vote{Height: height, Round: 1, Stage: api.First, Has: true, Block: 1, From: who}
	b := a
	b.Block = 2
	return api.Guilt{A: a, B: b}
}

// court is a state in which 5 and 6 had seats in the epochs 0 to 4 (of epochs of 4 heights), 7 in the epoch 2.
func court(t *testing.T) *state.State {
	s := begun(t, accounts{
		5: {Balance: 9, Foreign: 2, Nonce: 3, Bond: 20, Leaving: 7, FreeAt: 13},
		6: {Bond: 20, Jailed: true}, 7: {Balance: 1, Bond: 4}, 8: {Bond: 3},
	})
	for epoch := range 5 {
		ledger.SetBench(s, epoch, seats(5, 1, 6, 1))
	}
	ledger.SetBench(s, 2, seats(5, 1, 6, 1, 7, 1))
	return s
}

func punishes(t *testing.T, what string, s *state.State, env api.Env, g api.Guilt, want api.Errno) {
	t.Helper()
	was := root(s)
	if e := ledger.Punish(s, env, g); e != want {
		t.Errorf("G5: %s: %v at %v: %d, not %d", what, g, env, e, want)
	}
	if want != api.OK && root(s) != was {
		t.Errorf("G5: %s: %v was refused, and something has changed", what, g)
	}
}

func TestPunish(t *testing.T) {
	s := court(t)
	punishes(t, "one who lied", s, envOf(), twice(10, 5), api.OK)
	behind := accounts{5: {Balance: 9, Foreign: 2, Nonce: 3, Jailed: true}, api.Pot: {Balance: 27}}
	for who, a := range behind {
		if s.Account(who) != a {
			t.Errorf("G5: the account %d is %v, not %v", who, s.Account(who), a)
		}
	}
	punishes(t, "once more", s, envOf(), twice(9, 5), api.ErrGuilt)
	punishes(t, "another one", s, envOf(), twice(9, 7), api.OK)
	if s.Account(api.Pot) != (api.Account{Balance: 31}) || s.Account(7) != (api.Account{Balance: 1, Jailed: true}) {
		t.Errorf("G5: %v, %v", s.Account(api.Pot), s.Account(7))
	}
}

func TestPunishAtEdges(t *testing.T) {
	// The block of the height 10 is of the epoch 2: heights 9 to 12; the one ahead has 5 to 8.
	for height, want := range map[int]api.Errno{
		0: api.ErrGuilt, 1: api.ErrGuilt, 4: api.ErrGuilt, 5: api.OK, 8: api.OK, 9: api.OK, 10: api.OK,
		11: api.ErrGuilt, 12: api.ErrGuilt, 13: api.ErrGuilt, top: api.ErrGuilt, -1: api.ErrGuilt, math.MaxInt: api.ErrGuilt,
	} {
		punishes(t, "the height of the votes", court(t), envOf(), twice(height, 5), want)
	}
	first := api.Env{Height: 1, Epoch: 4, Proposer: 9}
	for height, want := range map[int]api.Errno{0: api.ErrGuilt, 1: api.OK, 2: api.ErrGuilt} {
		punishes(t, "at the first height", court(t), first, twice(height, 5), want)
	}
	last := api.Env{Height: 4, Epoch: 4, Proposer: 9}
	for height, want := range map[int]api.Errno{0: api.ErrGuilt, 1: api.OK, 4: api.OK, 5: api.ErrGuilt} {
		punishes(t, "at the end of the first epoch", court(t), last, twice(height, 5), want)
	}
	punishes(t, "a seat of this epoch", court(t), envOf(), twice(9, 7), api.OK)
	punishes(t, "a seat of this epoch, not of the one ahead", court(t), envOf(), twice(8, 7), api.ErrGuilt)
	punishes(t, "one who has no seat", court(t), envOf(), twice(9, 8), api.ErrGuilt)
	punishes(t, "one who is jailed", court(t), envOf(), twice(9, 6), api.ErrGuilt)
	s := court(t)
	ledger.SetBench(s, 1, nil)
	punishes(t, "a bench that is not there any more", s, envOf(), twice(8, 5), api.ErrGuilt)
	s.Set("b"+wire.Five(2), "\x01\x01")
	punishes(t, "a bench that is not so written", s, envOf(), twice(9, 5), api.ErrGuilt)
}

func TestPunishNeedsProof(t *testing.T) {
	for what, how := range map[string]func(*api.Guilt){
		"votes that are the same":     func(g *api.Guilt) { g.B = g.A },
		"of another height":           func(g *api.Guilt) { g.B.Height = 9 },
		"of another round":            func(g *api.Guilt) { g.B.Round = 2 },
		"of another stage":            func(g *api.Guilt) { g.B.Stage = api.Second },
		"of another voter":            func(g *api.Guilt) { g.B.From = 7 },
		"a vote that may not be":      func(g *api.Guilt) { g.B.Has = false },
		"another one that may not be": func(g *api.Guilt) { g.A.Has = false },
		"a stage that is none":        func(g *api.Guilt) { g.A.Stage, g.B.Stage = 3, 3 },
		"a number that is none":       func(g *api.Guilt) { g.A.Round, g.B.Round = -1, -1 },
	} {
		g := twice(10, 5)
		how(&g)
		punishes(t, what, court(t), envOf(), g, api.ErrGuilt)
	}
	g := twice(10, 5)
	g.B.Has, g.B.Block = false, 0
	punishes(t, "a vote for a block and one for none", court(t), envOf(), g, api.OK)
	g = twice(10, 5)
	g.A.Stage, g.B.Stage = api.Moves, api.Moves
	punishes(t, "two motions", court(t), envOf(), g, api.OK)
}

func TestPunishWithAFullPot(t *testing.T) {
	s := court(t)
	s.SetAccount(api.Pot, api.Account{Balance: top - 26})
	punishes(t, "the Pot has no room", s, envOf(), twice(10, 5), api.ErrLimit)
	punishes(t, "what is no guilt is told first", s, envOf(), twice(10, 6), api.ErrGuilt)
	s.SetAccount(api.Pot, api.Account{Balance: top - 27})
	punishes(t, "the Pot has just room", s, envOf(), twice(10, 5), api.OK)
	if s.Account(api.Pot).Balance != top {
		t.Errorf("G5: the Pot has %d", s.Account(api.Pot).Balance)
	}
	// One who has nothing at stake is jailed all the same.
	s.SetAccount(5, api.Account{Balance: 3})
	punishes(t, "nothing is at stake", s, envOf(), twice(10, 5), api.OK)
	if s.Account(5) != (api.Account{Balance: 3, Jailed: true}) {
		t.Errorf("G5: %v", s.Account(5))
	}
}

func TestCandidates(t *testing.T) {
	if l := ledger.Candidates(trie.New(8)); len(l) != 0 {
		t.Errorf("G6: of nothing the candidates are %v", l)
	}
	s := begun(t, accounts{
		0: {Bond: 5}, 3: {Bond: 1, Balance: 9}, 4: {Balance: 9, Leaving: 3}, 5: {Bond: 7, Jailed: true},
		258: {Bond: top}, api.Contracts + 1: {Bond: 2}, top: {Bond: 6},
	})
	bond, _ := wire.PutAccount(api.Account{Bond: 8})
	for _, key := range []string{"a", "a1234", "a123456", "b12345", "a" + wire.Five(3) + "x"} {
		s.Set(key, bond)
	}
	s.Set(state.AccountKey(9), "no account")
	s.Set(state.AccountKey(10), bond+"!")
	want := seats(0, 5, 3, 1, 258, top, api.Contracts+1, 2, top, 6)
	if got := ledger.Candidates(s.Tree()); !slices.Equal(got, want) {
		t.Errorf("G6: the candidates are %v, not %v", got, want)
	}
}

func TestTurn(t *testing.T) {
	with := func() *state.State {
		s := begun(t, accounts{1: {Bond: 4}, 2: {Bond: 9, Jailed: true}, 3: {Bond: 2, Leaving: 5}, 4: {Leaving: 5}})
		for epoch := range 5 {
			ledger.SetBench(s, epoch, seats(7, epoch+1))
		}
		return s
	}
	for _, height := range []int{1, 4, 5, 7, 9, 10, 11, 13} {
		s := with()
		was := root(s)
		if e := ledger.Turn(s, api.Env{Height: height, Epoch: 4}); e != api.OK {
			t.Errorf("G6: Turn at %d: %d", height, e)
		}
		if height%4 != 0 && root(s) != was {
			t.Errorf("G6: Turn at %d has changed something", height)
		}
	}
	s := with()
	ledger.Turn(s, api.Env{Height: 12, Epoch: 4})
	for epoch, want := range [][]api.Seat{seats(7, 1), nil, seats(7, 3), seats(1, 4, 3, 2), seats(7, 5)} {
		sits(t, "G6: at the end of the epoch 2", s, epoch, want)
	}
	s = with()
	ledger.SetBench(s, top, seats(8, 8))
	ledger.Turn(s, api.Env{Height: 4, Epoch: 4})
	for epoch, want := range [][]api.Seat{seats(7, 1), seats(1, 4, 3, 2), seats(7, 3)} {
		sits(t, "G6: at the end of the epoch 0", s, epoch, want)
	}
	sits(t, "G6: ahead of the epoch 0 there is none", s, top, seats(8, 8))
	s = with()
	ledger.Turn(s, api.Env{Height: 3, Epoch: 1})
	for epoch, want := range [][]api.Seat{seats(7, 1), nil, seats(7, 3), seats(1, 4, 3, 2), seats(7, 5)} {
		sits(t, "G6: an epoch of one height", s, epoch, want)
	}
	s = with()
	ledger.Turn(s, api.Env{Height: top, Epoch: 1})
	sits(t, "G6: at the last height", s, top, seats(1, 4, 3, 2))
}

func TestTurnChooses(t *testing.T) {
	l := accounts{}
	for i := range 10 {
		l[i] = api.Account{Bond: 20 - i}
	}
	s := begun(t, l)
	ledger.Turn(s, api.Env{Height: 2, Epoch: 2})
	// The Pot may have no seat, though it is the heaviest.
	sits(t, "G6: the heaviest", s, 1, seats(1, 19, 2, 18, 3, 17, 4, 16, 5, 15, 6, 14, 7, 13))

	s = begun(t, accounts{1: {Bond: 4, Jailed: true}, 2: {Balance: 7}})
	ledger.SetBench(s, 0, seats(1, 4, 2, 3))
	ledger.Turn(s, api.Env{Height: 2, Epoch: 2})
	sits(t, "G6: nobody is a candidate", s, 1, seats(1, 4, 2, 3))
	sits(t, "G6: this bench stays", s, 0, seats(1, 4, 2, 3))
	ledger.SetBench(s, 1, nil)
	ledger.SetBench(s, 2, seats(9, 9))
	ledger.Turn(s, api.Env{Height: 4, Epoch: 2})
	sits(t, "G6: neither candidates nor a bench", s, 2, nil)
	sits(t, "G6: the one ahead goes", s, 0, nil)
}
