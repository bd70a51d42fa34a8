package world_test

import (
	"fmt"
	"slices"

	"assize/api"
	"assize/block"
	"assize/court"
	"assize/light"
	"assize/node"
	"assize/wal"
	"assize/wire"
)

// plain is a world as the chapter tells it, told once more: all that nodes
// sent is kept, and gone through each time when it is asked what was said.
type plain struct {
	g      api.Genesis
	tip    block.Tip
	who    []int
	liars  []int
	logs   map[int]*wal.Log
	nodes  map[int]*node.Node // those that are up
	way    []api.Message
	sent   []api.Message
	signed []string
}

func newPlain(g api.Genesis, liars []int) *plain {
	tip, _ := block.Begin(g)
	p := &plain{g: g, tip: tip, liars: liars, logs: map[int]*wal.Log{}, nodes: map[int]*node.Node{}}
	for _, s := range g.Starts {
		if s.Bond != 0 {
			p.who = append(p.who, s.Who)
			p.logs[s.Who] = wal.New()
		}
	}
	for _, who := range p.who {
		p.begins(who)
	}
	return p
}

func (p *plain) begins(who int) {
	p.nodes[who], _ = node.New(p.g, who, p.logs[who])
	p.after(who)
}

func (p *plain) after(who int) {
	for _, m := range p.nodes[who].Out() {
		p.sent = append(p.sent, m)
		p.post(m)
	}
	if p.nodes[who].Down() {
		delete(p.nodes, who)
	}
}

func (p *plain) post(m api.Message) {
	to := m.To
	for _, who := range p.who {
		if (to == 0 || to == who) && who != m.From && len(p.way) < 4096 {
			m.To = who
			p.way = append(p.way, m)
		}
	}
}

// there says what is wrong with one who should be up.
func (p *plain) there(who int) api.Errno {
	if !slices.Contains(p.who, who) {
		return api.ErrSeat
	}
	if p.nodes[who] == nil {
		return api.ErrDown
	}
	return api.OK
}

func (p *plain) submit(who int, t api.Tx) api.Errno {
	if _, e := wire.PutTx(t); e != api.OK {
		return e
	}
	p.signed = append(p.signed, fmt.Sprint(t))
	if e := p.there(who); e != api.OK {
		return e
	}
	e := p.nodes[who].Submit(t)
	p.after(who)
	return e
}

func (p *plain) net(kind, n int) api.Errno {
	if len(p.way) == 0 {
		return api.ErrPlace
	}
	n = (n%len(p.way) + len(p.way)) % len(p.way)
	m := p.way[n]
	switch kind {
	case api.Deliver:
		p.way = slices.Concat(p.way[:n], p.way[n+1:])
		if p.nodes[m.To] != nil {
			p.nodes[m.To].Take(m)
			p.after(m.To)
		}
	case api.Drop:
		p.way = slices.Concat(p.way[:n], p.way[n+1:])
	case api.Double:
		if len(p.way) < 4096 {
			p.way = append(p.way, m)
		}
	default:
		return api.ErrKind
	}
	return api.OK
}

func (p *plain) tick(who int) api.Errno {
	if who != 0 && !slices.Contains(p.who, who) {
		return api.ErrSeat
	}
	for _, x := range p.who {
		if (who == 0 || who == x) && p.nodes[x] != nil {
			p.nodes[x].Tick()
			p.after(x)
		}
	}
	return api.OK
}

func (p *plain) stop(who, n, keep int) api.Errno {
	if e := p.there(who); e != api.OK {
		return e
	}
	if n > 0 {
		p.logs[who].Arm(n, keep)
	} else {
		p.logs[who].Die(keep)
		delete(p.nodes, who)
	}
	return api.OK
}

func (p *plain) begin(who int) api.Errno {
	switch e := p.there(who); e {
	case api.OK:
		return api.ErrBusy
	case api.ErrDown:
		p.begins(who)
		return api.OK
	default:
		return e
	}
}

func (p *plain) calm(n int) {
	for i := 0; i < n && i < 200; i++ {
		p.tick(0)
		for j := 0; j < 20000 && len(p.way) > 0; j++ {
			p.net(api.Deliver, 0)
		}
	}
}

func (p *plain) lie(m api.Message) api.Errno {
	if _, e := wire.PutMessage(m); e != api.OK {
		return e
	}
	if !slices.Contains(p.liars, m.From) {
		return api.ErrSeat
	}
	votes, txs := p.parts(m)
	for _, v := range votes {
		if !slices.Contains(p.liars, v.From) && !p.wasSaid(v) {
			return api.ErrForge
		}
	}
	for _, t := range txs {
		if !slices.Contains(p.liars, t.From) && !slices.Contains(p.signed, fmt.Sprint(t)) {
			return api.ErrForge
		}
	}
	p.post(m)
	return api.OK
}

// wasSaid: is it in what its voter's node sent?
func (p *plain) wasSaid(v api.Vote) bool {
	for _, m := range p.sent {
		if m.From == v.From {
			if l, _ := p.parts(m); slices.Contains(l, v) {
				return true
			}
		}
	}
	return false
}

// parts are the votes and the transactions in a message.
func (p *plain) parts(m api.Message) (votes []api.Vote, txs []api.Tx) {
	var blocks []api.Block
	var certs []api.Cert
	votes, txs = append(votes, m.Votes...), append(txs, m.Txs...)
	for _, x := range m.Motions {
		votes = append(votes, court.Moving(p.tip, x))
		blocks, certs = append(blocks, x.Block), append(certs, x.Basis...)
	}
	for _, k := range m.Knowns {
		blocks, certs = append(blocks, k.Block), append(certs, k.Cert)
	}
	for _, c := range certs {
		for _, who := range c.Froms {
			votes = append(votes, api.Vote{Height: c.Height, Round: c.Round, Stage: c.Stage, Has: c.Has, Block: c.Block, From: who})
		}
	}
	for _, b := range blocks {
		txs = append(txs, b.Txs...)
		for _, g := range b.Guilts {
			votes = append(votes, g.A, g.B)
		}
	}
	return votes, txs
}

func (p *plain) honest(t block.Tip) bool {
	all, lie := 0, 0
	for _, s := range t.Bench() {
		all += s.Weight
		if slices.Contains(p.liars, s.Who) {
			lie += s.Weight
		}
	}
	return lie*3 < all
}

func (p *plain) show(who int, v api.View, heights []int) (api.View, []api.Errno) {
	if e := p.there(who); e != api.OK {
		return v, []api.Errno{e}
	}
	var codes []api.Errno
	for _, h := range heights {
		if s, e := p.nodes[who].Sight(h); e == api.OK {
			next, e := light.Accept(v, s)
			if e == api.OK {
				v = next
			}
			codes = append(codes, e)
		}
	}
	return v, codes
}
