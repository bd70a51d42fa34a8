package node_test

import (
	"assize/api"
	"assize/block"
	"assize/court"
	"assize/pool"
	"assize/wal"
	"assize/wire"
)

// plain is a node as the chapter tells it, told once more: nothing in it is
// kept apart from what is handed in or out, and its court is filled each time.
type plain struct {
	g      api.Genesis
	self   int
	log    *wal.Log
	tips   []block.Tip
	finals []api.Known
	c      *court.Court
	p      *pool.Pool
	guilts []api.Guilt
	isDown bool
	out    []api.Message
}

func newPlain(g api.Genesis, self int, log *wal.Log) *plain {
	tip, _ := block.Begin(g)
	p := &plain{g: g, self: self, log: log, tips: []block.Tip{tip}, p: pool.New(64)}
	l := log.Begin()
	for _, x := range l {
		if x.Kind == api.Closed {
			if next, _, e := p.tip().Take(x.Known.Block); e == api.OK {
				p.tips, p.finals = append(p.tips, next), append(p.finals, x.Known)
			}
		}
	}
	p.c = court.New(p.tip(), self)
	for _, x := range l {
		p.c.Redo(x)
	}
	p.filled()
	p.does(p.c.Begin())
	return p
}

func (p *plain) tip() block.Tip { return p.tips[len(p.tips)-1] }

func (p *plain) filled() *court.Court {
	l := p.p.Pick(func(who int) int { return account(p.tip(), who).Nonce }, p.g.Gas, 16)
	p.c.Fill(l, p.guilts)
	return p.c
}

func (p *plain) does(l []api.Record) {
	if len(l) == 0 {
		return
	}
	m := api.Message{From: p.self, Height: p.tip().Header().Height + 1}
	for _, x := range l {
		if p.log.Append(x) != api.OK {
			p.isDown = true
			return
		}
		if x.Kind == api.Voted {
			m.Votes = append(m.Votes, x.Vote)
		}
		if x.Kind == api.Moved {
			m.Motions = append(m.Motions, x.Motion)
		}
		if x.Kind == api.Closed {
			m.Knowns = append(m.Knowns, x.Known)
		}
	}
	if p.log.Sync() != api.OK {
		p.isDown = true
		return
	}
	if m.Votes != nil || m.Motions != nil || m.Knowns != nil {
		p.out = append(p.out, m)
	}
	for _, k := range m.Knowns {
		next, _, _ := p.tip().Take(k.Block)
		p.tips, p.finals, p.c = append(p.tips, next), append(p.finals, k), nil
		for _, x := range k.Block.Txs {
			p.p.Forget(x.From, account(next, x.From).Nonce)
		}
		var left []api.Guilt
		for _, g := range p.guilts {
			if !account(next, g.A.From).Jailed {
				left = append(left, g)
			}
		}
		p.guilts = left
	}
}

func (p *plain) submit(t api.Tx) api.Errno {
	if p.isDown {
		return api.ErrDown
	}
	if _, e := wire.PutTx(t); e != api.OK {
		return e
	}
	a := account(p.tip(), t.From)
	if t.Limit > 1<<16 {
		return api.ErrGas
	}
	if a.Balance < t.Limit*t.Price {
		return api.ErrFunds
	}
	return p.p.Add(t, a.Nonce)
}

func (p *plain) tick() {
	if p.isDown {
		return
	}
	if p.c == nil {
		p.c = court.New(p.tip(), p.self)
		p.does(p.filled().Begin())
	} else {
		p.does(p.filled().Tick())
	}
	if p.isDown {
		return
	}
	m := api.Message{Height: len(p.finals) + 1}
	if p.c != nil {
		m = p.c.Says()
	}
	m.From, m.Txs = p.self, p.p.All()
	if len(m.Txs) > 16 {
		m.Txs = m.Txs[:16]
	}
	p.out = append(p.out, m)
}

func (p *plain) take(m api.Message) {
	if _, e := wire.PutMessage(m); e != api.OK || p.isDown {
		return
	}
	for _, t := range m.Txs {
		p.submit(t)
	}
	if m.Height > 0 && m.Height <= len(p.finals) {
		for _, k := range m.Knowns {
			if k.Cert.Stage == 2 {
				return
			}
		}
		if m.From != p.self {
			p.out = append(p.out, api.Message{From: p.self, To: m.From, Height: m.Height, Knowns: p.finals[m.Height-1 : m.Height]})
		}
		return
	}
	for i := 0; i < len(m.Knowns) && p.c != nil && !p.isDown; i++ {
		l, _ := p.filled().Known(m.Knowns[i])
		p.does(l)
	}
	for i := 0; i < len(m.Motions) && p.c != nil && !p.isDown; i++ {
		p.proves(p.filled().Motion(m.Motions[i]))
	}
	for i := 0; i < len(m.Votes) && p.c != nil && !p.isDown; i++ {
		p.proves(p.filled().Vote(m.Votes[i]))
	}
}

func (p *plain) proves(l []api.Record, g api.Guilt, e api.Errno) {
	p.does(l)
	if e != api.ErrGuilt || p.isDown || account(p.tip(), g.A.From).Jailed {
		return
	}
	for _, x := range p.guilts {
		if x.A.From == g.A.From {
			return
		}
	}
	p.guilts = append(p.guilts, g)
}
