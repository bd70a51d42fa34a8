package court

import (
	"assize/api"
)

// place is where one says something once: at a stage of a round.
type place struct {
	round, stage int
}

// note keeps in mind that it has voted at a stage of a round (Moves: that it has moved).
func (c *Court) note(round, stage int) { c.said[place{round, stage}] = struct{}{} }

// hasSaid: has it voted at that stage of this round (Moves: has it moved)?
// What it counts does not tell this, for there others may speak in its name.
func (c *Court) hasSaid(stage int) bool {
	_, there := c.said[place{c.round, stage}]
	return there
}

// lastSaid is the greatest round in which it said something; 0, if there is none.
func (c *Court) lastSaid() int {
	last := 0
	for p := range c.said {
		last = max(last, p.round)
	}
	return last
}

// Redo: what was recorded, ahead of Begin.
func (c *Court) Redo(x api.Record) {
	x = fresh(x) // of one that no log can have it is nothing, and of no kind
	switch x.Kind {
	case api.Voted:
		c.redoVote(x.Vote)
	case api.Moved:
		c.redoMotion(x.Motion)
	case api.Locked:
		c.redoLock(x.Known)
	}
}

func (c *Court) redoVote(v api.Vote) {
	if v.Height != c.height || v.From != c.self {
		return
	}
	c.note(v.Round, v.Stage)
	c.count.Add(v)
}

func (c *Court) redoMotion(m api.Motion) {
	if m.Block.Header.Height != c.height || m.From != c.self {
		return
	}
	c.note(m.Round, api.Moves)
	c.motions[m.Round] = m
	c.learn(m.Block)
}

func (c *Court) redoLock(k api.Known) {
	if !c.ofThisHeight(k) {
		return
	}
	c.lock, c.valid = []api.Known{k}, []api.Known{k}
	c.learn(k.Block)
}

func (c *Court) ofThisHeight(k api.Known) bool {
	return k.Cert.Height == c.height && k.Block.Header.Height == c.height
}
