package block

import (
	"assize/api"
	"assize/bench"
	"assize/ledger"
	"assize/state"
	"assize/trie"
	"assize/wire"
)

// peer is the key of what is believed of the other ledger.
const peer = "v"

// Begin begins a ledger.
func Begin(g api.Genesis) (Tip, api.Errno) {
	l := bench.Choose(stakes(g.Starts))
	if !mayRules(g) || !mayStarts(g.Starts) || !mayPeers(g) || len(l) == 0 {
		return Tip{}, api.ErrStart
	}
	st := state.New(trie.New(g.Width))
	for _, s := range g.Starts {
		st.SetAccount(s.Who, api.Account{Balance: s.Balance, Bond: s.Bond})
	}
	ledger.SetBench(st, 0, l)
	for _, v := range g.Peers {
		written, _ := wire.PutView(v) // that it may be was asked
		st.Set(peer, written)
	}
	t := Tip{width: g.Width, epoch: g.Epoch, gas: g.Gas, tree: st.Tree(), header: api.Header{Chain: g.Chain}}
	return t.told(nil, nil, nil), api.OK
}

// stakes are the starts with a bond, which weighs.
func stakes(l []api.Start) []api.Seat {
	var seats []api.Seat
	for _, s := range l {
		if s.Bond > 0 {
			seats = append(seats, api.Seat{Who: s.Who, Weight: s.Bond})
		}
	}
	return seats
}

func within(n, least, most int) bool { return n >= least && n <= most }

func mayRules(g api.Genesis) bool {
	return within(g.Width, 1, 8) && within(g.Epoch, 1, api.MaxEpoch) &&
		within(g.Gas, 0, api.MaxNumber) && within(g.Chain, 0, api.MaxNumber)
}

func mayStarts(l []api.Start) bool {
	if len(l) > api.MaxStarts {
		return false
	}
	last, money := 0, 0
	for _, s := range l {
		if s.Who <= last || s.Who >= api.Contracts || !within(s.Balance, 0, api.MaxNumber) || !within(s.Bond, 0, api.MaxNumber) {
			return false
		}
		last = s.Who
		money += s.Balance + s.Bond
	}
	return money <= api.MaxNumber
}

func mayPeers(g api.Genesis) bool {
	if len(g.Peers) > 1 {
		return false
	}
	for _, v := range g.Peers {
		if _, e := wire.PutView(v); e != api.OK || !bench.Fits(v.Seats) || v.Chain == g.Chain {
			return false
		}
	}
	return true
}
