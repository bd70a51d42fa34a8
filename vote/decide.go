package vote

import (
	"slices"

	"assize/api"
	"assize/bench"
)

// Lead is what a quorum voted for at a round and a stage, if there is that.
func (c *Count) Lead(round, stage int) (api.Cert, bool) {
	if stage != api.First && stage != api.Second {
		return api.Cert{}, false
	}
	l := c.at(round, stage)
	for _, v := range l {
		froms := voters(alike(l, v))
		if bench.Quorum(c.seats, froms) {
			return api.Cert{Height: c.height, Round: round, Stage: stage, Has: v.Has, Block: v.Block, Froms: froms}, true
		}
	}
	return api.Cert{}, false
}

// alike picks those that are for the same as v.
func alike(l []api.Vote, v api.Vote) []api.Vote {
	var some []api.Vote
	for _, x := range l {
		if x.Has == v.Has && x.Block == v.Block {
			some = append(some, x)
		}
	}
	return some
}

func voters(l []api.Vote) []int {
	var froms []int
	for _, v := range l {
		froms = append(froms, v.From)
	}
	return froms
}

// Any says whether those who voted at a round and a stage, for whatever, are a quorum.
func (c *Count) Any(round, stage int) bool {
	return bench.Quorum(c.seats, voters(c.at(round, stage)))
}

// leadFor is the Lead, if it is for a block.
func (c *Count) leadFor(round, stage int) (api.Cert, bool) {
	x, ok := c.Lead(round, stage)
	if !ok || !x.Has {
		return api.Cert{}, false
	}
	return x, true
}

// Closed is the first decision for a block at the second stage.
func (c *Count) Closed() (api.Cert, bool) {
	for _, round := range c.rounds {
		if x, ok := c.leadFor(round, api.Second); ok {
			return x, true
		}
	}
	return api.Cert{}, false
}

// Best is the last decision for a block at the first stage, up to a round.
func (c *Count) Best(round int) (api.Cert, bool) {
	for _, r := range slices.Backward(c.rounds) {
		if r > round {
			continue
		}
		if x, ok := c.leadFor(r, api.First); ok {
			return x, true
		}
	}
	return api.Cert{}, false
}

// Ahead is the greatest round beyond one, in which or beyond which more than a
// third voted; else the round itself. From the last round down the voters grow
// more, and they do so at rounds that have votes alone: no other need be asked.
func (c *Count) Ahead(round int) int {
	var named []int
	for _, r := range slices.Backward(c.rounds) {
		if r <= round {
			break
		}
		named = withOthers(named, voters(c.ofRound(r)))
		if bench.Some(c.seats, named) {
			return r
		}
	}
	return round
}

// withOthers adds those who are not named yet: so named stays as short as the bench.
func withOthers(named, others []int) []int {
	for _, who := range others {
		if !slices.Contains(named, who) {
			named = append(named, who)
		}
	}
	return named
}
