package ledger

import (
	"assize/api"
	"assize/bench"
	"assize/light"
	"assize/state"
	"assize/trie"
	"assize/vote"
	"assize/wire"
)

// What the keys begin with: those of benches, and those of accounts (chapter 4).
const (
	benches  = "b"
	accounts = "a"
)

func benchKey(epoch int) string { return benches + wire.Five(epoch) }

func mayEpoch(epoch int) bool { return epoch >= 0 && epoch <= api.MaxNumber }

// benchAt is the bench of an epoch in what get tells.
func benchAt(get func(key string) string, epoch int) []api.Seat {
	if !mayEpoch(epoch) {
		return nil
	}
	l, _ := wire.GetBench(get(benchKey(epoch))) // with an error it is none
	return l
}

// Bench is the bench of an epoch, if the tree has it still.
func Bench(t trie.Tree, epoch int) []api.Seat { return benchAt(t.Get, epoch) }

// SetBench puts the bench of an epoch; with none it is not there.
func SetBench(st *state.State, epoch int, l []api.Seat) api.Errno {
	written, e := wire.PutBench(l)
	if e != api.OK {
		return e
	}
	if !mayEpoch(epoch) {
		return api.ErrLimit
	}
	if len(l) == 0 {
		written = ""
	}
	return st.Set(benchKey(epoch), written)
}

// Punish takes the stake of one who is proved guilty.
func Punish(st *state.State, env api.Env, g api.Guilt) api.Errno {
	who := g.A.From
	a := st.Account(who)
	if !vote.Proves(g) || !seated(st, env, g.A) || a.Jailed {
		return api.ErrGuilt
	}
	stake := a.Bond + a.Leaving
	if e := change(st, api.Pot, func(pot *api.Account) { pot.Balance += stake }); e != api.OK {
		return e
	}
	a.Bond, a.Leaving, a.FreeAt, a.Jailed = 0, 0, 0, true
	return st.SetAccount(who, a)
}

// seated: did the voter have a seat there, and is the vote not too old, nor of a height that is still to come?
func seated(st *state.State, env api.Env, v api.Vote) bool {
	now, then := light.Epoch(env.Height, env.Epoch), light.Epoch(v.Height, env.Epoch)
	if v.Height < 1 || v.Height > env.Height || then < now-1 {
		return false
	}
	return bench.Has(benchAt(st.Get, then), v.From)
}

// Candidates are those who have something at stake, and did not lie.
func Candidates(t trie.Tree) []api.Seat {
	var l []api.Seat
	for _, item := range t.Items(accounts, -1) {
		a, e := wire.GetAccount(item.Value)
		if len(item.Key) != len(state.AccountKey(0)) || e != api.OK || a.Jailed || a.Bond == 0 {
			continue
		}
		l = append(l, api.Seat{Who: whose(item.Key), Weight: a.Bond})
	}
	return l
}

// whose is the number that stands in the key of an account.
func whose(key string) int {
	who := 0
	for i := range len(key) - len(accounts) {
		who = who<<8 | int(key[len(accounts)+i])
	}
	return who
}

// Turn is what comes behind the last transaction of a block: at the end of an epoch a new bench.
func Turn(st *state.State, env api.Env) api.Errno {
	if env.Height < 1 || env.Epoch < 1 || env.Height%env.Epoch != 0 {
		return api.OK
	}
	now := light.Epoch(env.Height, env.Epoch)
	l := bench.Choose(Candidates(st.Tree()))
	if len(l) == 0 {
		l = benchAt(st.Get, now)
	}
	SetBench(st, now+1, l)
	SetBench(st, now-1, nil) // ahead of the first epoch there is none: that is refused
	return api.OK
}
