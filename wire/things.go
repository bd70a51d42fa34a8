package wire

import (
	"assize/api"
)

// Here each thing is its fields, in the order in which package api has them.

func (p *pass) vote(v *api.Vote) {
	p.numbers(&v.Height, &v.Round, &v.Stage)
	p.flag(&v.Has)
	p.digest(&v.Block)
	p.number(&v.From)
}

func (p *pass) cert(c *api.Cert) {
	p.numbers(&c.Height, &c.Round, &c.Stage)
	p.flag(&c.Has)
	p.digest(&c.Block)
	list(p, &c.Froms, api.MaxSeats, (*pass).number)
}

func (p *pass) bench(l *[]api.Seat) {
	list(p, l, api.MaxSeats, func(p *pass, s *api.Seat) {
		p.numbers(&s.Who, &s.Weight)
	})
}

func (p *pass) header(h *api.Header) {
	p.numbers(&h.Chain, &h.Height)
	p.digests(&h.Parent, &h.Txs, &h.Guilts, &h.State, &h.Results, &h.Bench)
	p.number(&h.Proposer)
}

func (p *pass) proof(x *api.Proof) {
	list(p, &x.Turns, api.MaxTurns, func(p *pass, t *api.Turn) {
		p.bounded(&t.Pos, api.MaxTurns-1)
		p.digest(&t.Side)
	})
	p.flag(&x.Leaf)
	p.text(&x.Key, api.MaxKey)
	p.text(&x.Value, api.MaxValue)
}

func (p *pass) sight(s *api.Sight) {
	p.header(&s.Header)
	p.cert(&s.Cert)
	p.bench(&s.Seats)
}

func (p *pass) tx(t *api.Tx) {
	p.numbers(&t.Kind, &t.From, &t.Nonce, &t.Price, &t.Limit, &t.To, &t.Amount)
	p.text(&t.Text, api.MaxText)
	list(p, &t.Args, api.MaxArgs, (*pass).number)
	list(p, &t.Sights, 1, (*pass).sight)
	list(p, &t.Proofs, 1, (*pass).proof)
}

func (p *pass) guilt(g *api.Guilt) {
	p.vote(&g.A)
	p.vote(&g.B)
}

func (p *pass) block(b *api.Block) {
	p.header(&b.Header)
	list(p, &b.Txs, api.MaxTxs, (*pass).tx)
	list(p, &b.Guilts, api.MaxGuilts, (*pass).guilt)
}

func (p *pass) motion(m *api.Motion) {
	p.numbers(&m.Round, &m.From)
	p.block(&m.Block)
	list(p, &m.Basis, 1, (*pass).cert)
}

func (p *pass) known(k *api.Known) {
	p.cert(&k.Cert)
	p.block(&k.Block)
}

func (p *pass) message(m *api.Message) {
	p.numbers(&m.From, &m.To, &m.Height)
	list(p, &m.Votes, api.MaxVotes, (*pass).vote)
	list(p, &m.Motions, 2, (*pass).motion)
	list(p, &m.Knowns, 2, (*pass).known)
	list(p, &m.Txs, api.MaxTxs, (*pass).tx)
}

func (p *pass) record(x *api.Record) {
	p.number(&x.Kind)
	switch x.Kind {
	case api.Voted:
		p.vote(&x.Vote)
	case api.Moved:
		p.motion(&x.Motion)
	case api.Locked, api.Closed:
		p.known(&x.Known)
	}
}

func (p *pass) account(a *api.Account) {
	p.numbers(&a.Balance, &a.Foreign, &a.Nonce, &a.Bond, &a.Leaving, &a.FreeAt)
	p.flag(&a.Jailed)
}

func (p *pass) parcel(x *api.Parcel) {
	p.numbers(&x.Kind, &x.To, &x.Amount)
}

func (p *pass) view(v *api.View) {
	p.numbers(&v.Chain, &v.Width, &v.Epoch, &v.Height)
	p.digest(&v.State)
	p.bench(&v.Seats)
}

func (p *pass) result(x *api.Result) {
	code := int(x.Code)
	p.numbers(&code, &x.Used, &x.Value)
	x.Code = api.Errno(code)
	list(p, &x.Notes, api.MaxNotes, func(p *pass, n *api.Note) {
		p.numbers(&n.Who, &n.N)
	})
}
