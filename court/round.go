package court

import (
	"assize/api"
)

// Begin: the first round; or the last one of which something was recorded.
func (c *Court) Begin() []api.Record {
	if c.over() {
		return nil
	}
	c.beginRound(c.lastSaid())
	return c.goOn()
}

// Tick: time passes.
func (c *Court) Tick() []api.Record {
	if c.over() || c.clock == 0 {
		return nil
	}
	c.clock--
	if c.clock == 0 {
		c.timeIsUp()
	}
	return c.goOn()
}

func (c *Court) timeIsUp() {
	switch c.step {
	case waiting:
		c.vote(api.First, false, 0)
		c.enter(firstVoted, 0)
	case firstVoted:
		c.vote(api.Second, false, 0)
		c.enter(secondVoted, 0)
	default:
		c.beginRound(c.round + 1)
	}
}

// patience: so many ticks the clock has in this round.
func (c *Court) patience() int { return 3 + c.round }

func (c *Court) enter(step, clock int) { c.step, c.clock, c.timed = step, clock, false }

func (c *Court) beginRound(round int) {
	c.round = round
	switch {
	case c.hasSaid(api.Second):
		c.enter(secondVoted, 0)
	case c.hasSaid(api.First):
		c.enter(firstVoted, 0)
	default:
		c.enter(waiting, c.patience())
	}
	if _, there := c.motions[round]; !there && c.leads() && !c.hasSaid(api.Moves) {
		c.move()
	}
}

// leads: that it has a seat is asked, too, for where nobody leads the leader is 0.
func (c *Court) leads() bool { return c.seated() && c.tip.Leader(c.round) == c.self }

func (c *Court) move() {
	m := api.Motion{Round: c.round, From: c.self}
	if len(c.valid) > 0 {
		m.Block, m.Basis = c.valid[0].Block, []api.Cert{c.valid[0].Cert}
	} else {
		m.Block, _ = c.tip.Make(c.self, c.filled(), c.guilts) // who leads has a seat
	}
	c.want(api.Record{Kind: api.Moved, Motion: m})
	c.note(c.round, api.Moves)
	c.learn(m.Block)
	c.motions[c.round] = m
	c.count.Add(Moving(c.tip, m))
}

// vote votes in this round, if it may, and did not yet.
func (c *Court) vote(stage int, has bool, name api.Digest) {
	if !c.seated() || c.hasSaid(stage) {
		return
	}
	v := api.Vote{Height: c.height, Round: c.round, Stage: stage, Has: has, Block: name, From: c.self}
	c.count.Add(v)
	c.note(c.round, stage)
	c.want(api.Record{Kind: api.Voted, Vote: v})
}

func (c *Court) want(x api.Record) { c.wants = append(c.wants, fresh(x)) }

// goOn does what follows from what came, and hands out what it wants done.
func (c *Court) goOn() []api.Record {
	for c.underWay() && c.changes() {
	}
	if c.underWay() && c.step != waiting && !c.timed && c.count.Any(c.round, c.stage()) {
		c.timed, c.clock = true, c.patience()
	}
	l := c.wants
	c.wants = nil
	return l
}

func (c *Court) underWay() bool { return c.round >= 0 && !c.over() }

// stage is that of the votes which this step, if it is not the first one, waits for.
func (c *Court) stage() int {
	if c.step == firstVoted {
		return api.First
	}
	return api.Second
}

// changes does the first thing that is to be done, if there is one.
func (c *Court) changes() bool {
	return c.closes() || c.catchesUp() || c.findsValid() || c.answersMotion() || c.givesUp()
}

func (c *Court) closes() bool {
	x, ok := c.count.Closed()
	if !ok {
		return false
	}
	k, ok := c.knownBy(x)
	if ok {
		c.end(k)
	}
	return ok
}

// end: it is done with a block.
func (c *Court) end(k api.Known) {
	c.done = []api.Known{freshKnown(k)}
	c.want(api.Record{Kind: api.Closed, Known: k})
}

func (c *Court) catchesUp() bool {
	round := c.count.Ahead(c.round)
	if round == c.round {
		return false
	}
	c.beginRound(round)
	return true
}

func (c *Court) findsValid() bool {
	x, ok := c.count.Best(c.round)
	if !ok || len(c.valid) > 0 && x.Round <= c.valid[0].Cert.Round {
		return false
	}
	k, ok := c.knownBy(x)
	if !ok {
		return false
	}
	c.valid = []api.Known{k}
	if x.Round == c.round && c.step != secondVoted {
		c.holdOn(k)
	}
	return true
}

func (c *Court) holdOn(k api.Known) {
	c.lock = []api.Known{k}
	c.want(api.Record{Kind: api.Locked, Known: k})
	c.vote(api.Second, true, k.Cert.Block)
	c.enter(secondVoted, 0)
}

func (c *Court) answersMotion() bool {
	m, there := c.motions[c.round]
	if !there || c.step != waiting {
		return false
	}
	if c.mayFavour(m) {
		c.vote(api.First, true, c.tip.Name(m.Block.Header))
	} else {
		c.vote(api.First, false, 0)
	}
	c.enter(firstVoted, 0)
	return true
}

// mayFavour: does nothing that it holds on to stand against a motion?
func (c *Court) mayFavour(m api.Motion) bool {
	for _, k := range c.lock {
		if k.Cert.Block != c.tip.Name(m.Block.Header) && !leansOn(m, k.Cert.Round) {
			return false
		}
	}
	return true
}

// leansOn: has a motion votes of a round, or of one behind it?
func leansOn(m api.Motion, round int) bool {
	return len(m.Basis) > 0 && m.Basis[0].Round >= round
}

func (c *Court) givesUp() bool {
	x, ok := c.count.Lead(c.round, api.First)
	if !ok || x.Has || c.step != firstVoted {
		return false
	}
	c.vote(api.Second, false, 0)
	c.enter(secondVoted, 0)
	return true
}
