package court

import (
	"assize/api"
	"assize/vote"
	"assize/wire"
)

// tooFar: is a round so far ahead that nothing of it is heard yet?
func (c *Court) tooFar(round int) bool { return round > c.round+api.MaxAhead }

// Vote takes somebody's vote.
func (c *Court) Vote(v api.Vote) ([]api.Record, api.Guilt, api.Errno) {
	if c.tooFar(v.Round) {
		return nil, api.Guilt{}, api.ErrFar
	}
	if g, e := c.count.Add(v); e != api.OK {
		return nil, g, e
	}
	return c.goOn(), api.Guilt{}, api.OK
}

// Motion takes a motion. Of a leader who moved another block in this round it tells the guilt.
func (c *Court) Motion(m api.Motion) ([]api.Record, api.Guilt, api.Errno) {
	if e := c.refusesMotion(m); e != api.OK {
		return nil, api.Guilt{}, e
	}
	if e := c.learn(m.Block); e != api.OK {
		return nil, api.Guilt{}, e
	}
	g, e := c.count.Add(Moving(c.tip, m))
	if e == api.OK {
		c.motions[m.Round] = freshMotion(m)
	}
	return c.goOn(), g, e
}

// refusesMotion says why a motion can't be heard, whatever its block does.
func (c *Court) refusesMotion(m api.Motion) api.Errno {
	// The message's own From must be one that may be; nobody's name is asked of it here.
	if _, e := wire.PutMessage(api.Message{From: 1, Motions: []api.Motion{m}}); e != api.OK {
		return e
	}
	switch {
	case m.Block.Header.Height != c.height:
		return api.ErrHeight
	case c.tooFar(m.Round):
		return api.ErrFar
	case m.From != c.tip.Leader(m.Round):
		return api.ErrSeat
	case len(m.Basis) > 0:
		return c.refusesBasis(m, m.Basis[0])
	case m.Block.Header.Proposer != m.From:
		return api.ErrSeat
	}
	return api.OK
}

func (c *Court) refusesBasis(m api.Motion, x api.Cert) api.Errno {
	if x.Height != c.height || x.Stage != api.First || x.Round >= m.Round || !c.isFor(x, m.Block) {
		return api.ErrRoot
	}
	return vote.Check(c.seats, x)
}

func (c *Court) isFor(x api.Cert, b api.Block) bool {
	return x.Has && x.Block == c.tip.Name(b.Header)
}

// Known takes a block with votes of the first or of the second stage that decide for it.
func (c *Court) Known(k api.Known) ([]api.Record, api.Errno) {
	if e := c.refusesKnown(k); e != api.OK {
		return nil, e
	}
	if e := c.learn(k.Block); e != api.OK {
		return nil, e
	}
	switch {
	case k.Cert.Stage == api.First:
		c.countAll(k.Cert)
	case !c.over():
		c.end(k)
	}
	return c.goOn(), api.OK
}

// refusesKnown says why a cert can't decide for its block, whatever that does.
func (c *Court) refusesKnown(k api.Known) api.Errno {
	if _, e := wire.PutMessage(api.Message{From: 1, Knowns: []api.Known{k}}); e != api.OK {
		return e
	}
	if !c.ofThisHeight(k) {
		return api.ErrHeight
	}
	if !c.isFor(k.Cert, k.Block) {
		return api.ErrRoot
	}
	return vote.Check(c.seats, k.Cert)
}

// countAll counts the votes of a cert. Of one who voted otherwise the first vote stays.
func (c *Court) countAll(x api.Cert) {
	for _, who := range x.Froms {
		c.count.Add(api.Vote{Height: x.Height, Round: x.Round, Stage: x.Stage, Has: x.Has, Block: x.Block, From: who})
	}
}
