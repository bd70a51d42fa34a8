package ledger_test

import (
	"slices"
	"testing"

	"assize/api"
	"assize/ledger"
	"assize/state"
	"assize/trie"
)

const top = api.MaxNumber

// accounts: by who has them.
type accounts map[int]api.Account

// begun is a state with these accounts.
func begun(t *testing.T, l accounts) *state.State {
	t.Helper()
	s := state.New(trie.New(8))
	for who, a := range l {
		if e := s.SetAccount(who, a); e != api.OK {
			t.Fatalf("SetAccount(%d, %v): %d", who, a, e)
		}
	}
	return s
}

func root(s *state.State) api.Digest { return s.Tree().Root() }

func sameResult(a, b api.Result) bool {
	return a.Code == b.Code && a.Used == b.Used && a.Value == b.Value && slices.Equal(a.Notes, b.Notes)
}

// env of a block of the height 10, in epochs of 4, by the proposer 9.
func envOf() api.Env { return api.Env{Height: 10, Epoch: 4, Proposer: 9} }

// stands applies a transaction that can stand there: its result is wanted, and these accounts behind it.
func stands(t *testing.T, what string, s *state.State, env api.Env, x api.Tx, want api.Result, behind accounts) {
	t.Helper()
	own, _ := state.Money(s.Tree())
	got, e := ledger.Apply(s, env, x)
	if e != api.OK || !sameResult(got, want) {
		t.Errorf("%s: %v: %v, %d, not %v", what, x, got, e, want)
	}
	for who, a := range behind {
		if s.Account(who) != a {
			t.Errorf("%s: %v: the account %d is %v, not %v", what, x, who, s.Account(who), a)
		}
	}
	if now, _ := state.Money(s.Tree()); now != own {
		t.Errorf("%s: %v: of the money %d there is %d", what, x, own, now)
	}
	if e := s.Undo(0); e != api.ErrMark {
		t.Errorf("%s: %v: a mark is left", what, x)
	}
}

// fails applies a transaction that can stand there, but does nothing beside the nonce and the gas.
func fails(t *testing.T, what string, s *state.State, x api.Tx, want api.Result) {
	t.Helper()
	is := state.New(s.Tree())
	a := is.Account(x.From)
	a.Nonce++
	is.SetAccount(x.From, a)
	if e := is.Move(x.From, envOf().Proposer, want.Used*x.Price); e != api.OK {
		t.Fatalf("%s: the gas: %d", what, e)
	}
	stands(t, what, s, envOf(), x, want, nil)
	if root(s) != root(is) {
		t.Errorf("%s: %v: something beside the nonce and the gas has changed", what, x)
	}
}

// refuses applies a transaction that can't stand there.
func refuses(t *testing.T, what string, s *state.State, x api.Tx, want api.Errno) {
	t.Helper()
	was := root(s)
	got, e := ledger.Apply(s, envOf(), x)
	if e != want || !sameResult(got, api.Result{}) {
		t.Errorf("%s: %v: %v, %d, not %d alone", what, x, got, e, want)
	}
	if root(s) != was {
		t.Errorf("%s: %v: it was refused, and something has changed", what, x)
	}
}
