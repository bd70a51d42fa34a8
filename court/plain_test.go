package court_test

import (
	"slices"

	"assize/api"
	"assize/bench"
	"assize/block"
	"assize/court"
	"assize/vote"
	"assize/wire"
)

// plain is a court as the chapter tells it, told once more: nothing in it is
// kept apart from what is handed in or out, and all is looked for in lists.
type plain struct {
	tip                 block.Tip
	self                int
	count               *vote.Count
	txs                 []api.Tx
	guilts              []api.Guilt
	round, step, clock  int
	clocks              [][2]int // the rounds and steps in which the votes have set the clock
	mine                []api.Vote
	moved               []api.Motion // its own
	there               []api.Motion
	known               []api.Block
	locked, valid, done []api.Known
	out                 []api.Record
}

func newPlain(tip block.Tip, self int) *plain {
	return &plain{tip: tip, self: self, count: vote.New(tip.Bench(), tip.Header().Height+1), round: -1}
}

func (p *plain) height() int { return p.tip.Header().Height + 1 }

func (p *plain) name(b api.Block) api.Digest { return p.tip.Name(b.Header) }

func (p *plain) knows(b api.Block) bool {
	return slices.ContainsFunc(p.known, func(x api.Block) bool {
		return sameKnowns([]api.Known{{Cert: api.Cert{Stage: 1}, Block: x}}, []api.Known{{Cert: api.Cert{Stage: 1}, Block: b}})
	})
}

func (p *plain) learn(b api.Block) api.Errno {
	if p.knows(b) {
		return api.OK
	}
	_, _, e := p.tip.Take(b)
	if e == api.OK {
		p.known = append(p.known, b)
	}
	return e
}

func (p *plain) byCert(x api.Cert, ok bool) []api.Known {
	for _, b := range p.known {
		if ok && p.name(b) == x.Block {
			return []api.Known{{Cert: x, Block: b}}
		}
	}
	return nil
}

func (p *plain) motion(round int) (api.Motion, bool) {
	for _, m := range slices.Backward(p.there) {
		if m.Round == round {
			return m, true
		}
	}
	return api.Motion{}, false
}

func (p *plain) hasVoted(stage int) bool {
	return slices.ContainsFunc(p.mine, func(v api.Vote) bool { return v.Round == p.round && v.Stage == stage })
}

func (p *plain) begins(round int) {
	p.round, p.step, p.clock = round, 0, 3+round
	if p.hasVoted(1) {
		p.step, p.clock = 1, 0
	}
	if p.hasVoted(2) {
		p.step, p.clock = 2, 0
	}
	_, there := p.motion(round)
	moved := slices.ContainsFunc(p.moved, func(m api.Motion) bool { return m.Round == round })
	if p.self < 1 || p.tip.Leader(round) != p.self || moved || there {
		return
	}
	m := api.Motion{Round: round, From: p.self}
	if p.valid != nil {
		m.Block, m.Basis = p.valid[0].Block, []api.Cert{p.valid[0].Cert}
	} else {
		m.Block, _ = p.tip.Make(p.self, p.txs, p.guilts)
	}
	p.out = append(p.out, api.Record{Kind: api.Moved, Motion: m})
	p.moved, p.there = append(p.moved, m), append(p.there, m)
	p.learn(m.Block)
	p.count.Add(court.Moving(p.tip, m))
}

func (p *plain) votes(stage int, for1 []api.Block) {
	p.clock, p.step = 0, stage
	if !bench.Has(p.tip.Bench(), p.self) || p.hasVoted(stage) {
		return
	}
	v := api.Vote{Height: p.height(), Round: p.round, Stage: stage, From: p.self}
	for _, b := range for1 {
		v.Has, v.Block = true, p.name(b)
	}
	p.mine = append(p.mine, v)
	p.count.Add(v)
	p.out = append(p.out, api.Record{Kind: api.Voted, Vote: v})
}

// five is R5: the first that applies; does something change?
func (p *plain) five() bool {
	if k := p.byCert(p.count.Closed()); k != nil {
		p.done = k
		p.out = append(p.out, api.Record{Kind: api.Closed, Known: k[0]})
		return false
	}
	if r := p.count.Ahead(p.round); r > p.round {
		p.begins(r)
		return true
	}
	if k := p.byCert(p.count.Best(p.round)); k != nil && (p.valid == nil || k[0].Cert.Round > p.valid[0].Cert.Round) {
		p.valid = k
		if k[0].Cert.Round == p.round && p.step < 2 {
			p.locked = k
			p.out = append(p.out, api.Record{Kind: api.Locked, Known: k[0]})
			p.votes(2, []api.Block{k[0].Block})
		}
		return true
	}
	if m, there := p.motion(p.round); there && p.step == 0 {
		free := p.locked == nil || p.name(p.locked[0].Block) == p.name(m.Block)
		if free || len(m.Basis) > 0 && m.Basis[0].Round >= p.locked[0].Cert.Round {
			p.votes(1, []api.Block{m.Block})
		} else {
			p.votes(1, nil)
		}
		return true
	}
	if x, ok := p.count.Lead(p.round, 1); ok && !x.Has && p.step == 1 {
		p.votes(2, nil)
		return true
	}
	return false
}

func (p *plain) ends() []api.Record {
	if p.done == nil && p.round >= 0 {
		for p.five() {
		}
		at := [2]int{p.round, p.step}
		if p.done == nil && p.step > 0 && !slices.Contains(p.clocks, at) && p.count.Any(p.round, p.step) {
			p.clocks, p.clock = append(p.clocks, at), 3+p.round
		}
	}
	l := p.out
	p.out = nil
	return l
}

func (p *plain) begin() []api.Record {
	r := 0
	for _, v := range p.mine {
		r = max(r, v.Round)
	}
	for _, m := range p.moved {
		r = max(r, m.Round)
	}
	if p.done == nil {
		p.begins(r)
	}
	return p.ends()
}

func (p *plain) tick() []api.Record {
	if p.done != nil || p.clock == 0 {
		return nil
	}
	p.clock--
	switch {
	case p.clock == 0 && p.step == 2:
		p.begins(p.round + 1)
	case p.clock == 0:
		p.votes(p.step+1, nil)
	}
	return p.ends()
}

func (p *plain) vote(v api.Vote) ([]api.Record, api.Guilt, api.Errno) {
	if v.Round > p.round+16 {
		return nil, api.Guilt{}, api.ErrFar
	}
	if g, e := p.count.Add(v); e != api.OK {
		return nil, g, e
	}
	return p.ends(), api.Guilt{}, api.OK
}

func (p *plain) hears(m api.Motion) ([]api.Record, api.Guilt, api.Errno) {
	_, e := wire.PutMessage(api.Message{From: 5, Motions: []api.Motion{m}})
	switch {
	case e != api.OK:
	case m.Block.Header.Height != p.height():
		e = api.ErrHeight
	case m.Round > p.round+16:
		e = api.ErrFar
	case m.From != p.tip.Leader(m.Round):
		e = api.ErrSeat
	}
	for _, x := range m.Basis {
		if e != api.OK {
			break
		}
		if x.Height != p.height() || x.Stage != 1 || !x.Has || x.Round >= m.Round || x.Block != p.name(m.Block) {
			e = api.ErrRoot
		} else {
			e = vote.Check(p.tip.Bench(), x)
		}
	}
	if e == api.OK && len(m.Basis) == 0 && m.Block.Header.Proposer != m.From {
		e = api.ErrSeat
	}
	if e == api.OK {
		e = p.learn(m.Block)
	}
	if e != api.OK {
		return nil, api.Guilt{}, e
	}
	g, e := p.count.Add(court.Moving(p.tip, m))
	if e == api.OK {
		p.there = append(p.there, m)
	}
	return p.ends(), g, e
}

func (p *plain) takes(k api.Known) ([]api.Record, api.Errno) {
	_, e := wire.PutMessage(api.Message{From: 5, Knowns: []api.Known{k}})
	switch {
	case e != api.OK:
	case k.Block.Header.Height != p.height(), k.Cert.Height != p.height():
		e = api.ErrHeight
	case !k.Cert.Has, k.Cert.Block != p.name(k.Block):
		e = api.ErrRoot
	default:
		e = vote.Check(p.tip.Bench(), k.Cert)
	}
	if e == api.OK {
		e = p.learn(k.Block)
	}
	if e != api.OK {
		return nil, e
	}
	if k.Cert.Stage == 2 && p.done == nil {
		p.done = []api.Known{k}
		p.out = append(p.out, api.Record{Kind: api.Closed, Known: k})
	}
	for _, who := range k.Cert.Froms {
		if k.Cert.Stage == 1 {
			p.count.Add(api.Vote{Height: k.Cert.Height, Round: k.Cert.Round, Stage: 1, Has: true, Block: k.Cert.Block, From: who})
		}
	}
	return p.ends(), api.OK
}

func (p *plain) redo(x api.Record) {
	switch {
	case x.Kind == api.Voted && x.Vote.Height == p.height() && x.Vote.From == p.self:
		p.mine = append(p.mine, x.Vote)
		p.count.Add(x.Vote)
	case x.Kind == api.Moved && x.Motion.Block.Header.Height == p.height() && x.Motion.From == p.self:
		p.moved, p.there = append(p.moved, x.Motion), append(p.there, x.Motion)
		p.learn(x.Motion.Block)
	case x.Kind == api.Locked && x.Known.Block.Header.Height == p.height():
		p.locked, p.valid = []api.Known{x.Known}, []api.Known{x.Known}
		p.learn(x.Known.Block)
	}
}

func (p *plain) says() api.Message {
	m := api.Message{Height: p.height(), Knowns: p.done}
	if p.done != nil {
		return m
	}
	for _, v := range p.count.Votes() {
		if v.Round >= p.round-1 && len(m.Votes) < 512 {
			m.Votes = append(m.Votes, v)
		}
	}
	if x, there := p.motion(p.round); there {
		m.Motions = append(m.Motions, x)
	}
	m.Knowns = p.valid
	return m
}
