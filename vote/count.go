package vote

import (
	"slices"

	"assize/api"
	"assize/bench"
	"assize/wire"
)

// Count counts the votes of a height.
type Count struct {
	seats  []api.Seat
	height int
	votes  map[place]api.Vote
	rounds []int // those of which a vote is there, rising
}

// place is where a voter votes once.
type place struct {
	round, stage, who int
}

func placeOf(v api.Vote) place { return place{v.Round, v.Stage, v.From} }

// New counts the votes of a bench, of a height.
func New(l []api.Seat, height int) *Count {
	return &Count{seats: slices.Clone(l), height: height, votes: map[place]api.Vote{}}
}

// Add counts a vote. Of a voter who said something else there already it tells the guilt.
func (c *Count) Add(v api.Vote) (api.Guilt, api.Errno) {
	if e := c.refuses(v); e != api.OK {
		return api.Guilt{}, e
	}
	said, there := c.votes[placeOf(v)]
	switch {
	case there && said == v:
		return api.Guilt{}, api.ErrSaid
	case there:
		return api.Guilt{A: said, B: v}, api.ErrGuilt
	}
	c.votes[placeOf(v)] = v
	if at, known := slices.BinarySearch(c.rounds, v.Round); !known {
		c.rounds = slices.Insert(c.rounds, at, v.Round)
	}
	return api.Guilt{}, api.OK
}

// refuses says why a vote can't be counted here, whatever was said ahead of it.
func (c *Count) refuses(v api.Vote) api.Errno {
	if _, e := wire.PutVote(v); e != api.OK {
		return e
	}
	if v.Height != c.height {
		return api.ErrHeight
	}
	if !bench.Has(c.seats, v.From) {
		return api.ErrSeat
	}
	return api.OK
}

// Votes are all that were counted, by round, stage and voter.
func (c *Count) Votes() []api.Vote {
	var l []api.Vote
	for _, round := range c.rounds {
		l = append(l, c.ofRound(round)...)
	}
	return l
}

// ofRound lists the votes of a round, by stage and voter.
func (c *Count) ofRound(round int) []api.Vote {
	var l []api.Vote
	for stage := api.Moves; stage <= api.Second; stage++ {
		l = append(l, c.at(round, stage)...)
	}
	return l
}

// at lists the votes of a round and a stage by voter: the seats, which rise, are asked one by one.
func (c *Count) at(round, stage int) []api.Vote {
	var l []api.Vote
	for _, s := range c.seats {
		if v, there := c.votes[place{round, stage, s.Who}]; there {
			l = append(l, v)
		}
	}
	return l
}
