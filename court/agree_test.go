package court_test

import (
	"math/rand"
	"slices"
	"testing"

	"assize/api"
	"assize/bench"
	"assize/block"
	"assize/court"
)

// hall has courts of one bench, a net that loses, doubles and turns about, and liars who weigh under a third.
type hall struct {
	*rand.Rand
	t      *testing.T
	tip    block.Tip
	courts map[int]*court.Court
	logs   map[int][]api.Record
	honest []int
	liars  []int
	net    []letter
	said   []api.Vote // by those who are honest
	blocks []api.Block
	falls  int
	rounds int
	loss   int // so many of ten messages are lost in a storm
	stormy bool
}

type letter struct {
	to int
	m  api.Message
}

func newHall(t *testing.T, r *rand.Rand) *hall {
	h := &hall{Rand: r, t: t, courts: map[int]*court.Court{}, logs: map[int][]api.Record{}, loss: r.Intn(10)}
	g := api.Genesis{Chain: 1, Width: 8, Epoch: 2, Gas: 900}
	for i := range 4 + r.Intn(4) {
		g.Starts = append(g.Starts, api.Start{Who: i + 1, Balance: 500, Bond: 1 + r.Intn(3)})
	}
	g.Starts = append(g.Starts, api.Start{Who: 50, Balance: 9000})
	h.tip = begin(t, g)
	l := h.tip.Bench()
	for _, s := range l {
		if h.Intn(2) == 0 && 3*(bench.Weight(l, h.liars)+s.Weight) < bench.Total(l) {
			h.liars = append(h.liars, s.Who)
		} else {
			h.honest = append(h.honest, s.Who)
		}
	}
	for _, who := range h.honest {
		h.rise(who)
	}
	return h
}

// rise lets a court begin, over what was recorded ahead of its fall.
func (h *hall) rise(who int) {
	c := court.New(h.tip, who)
	c.Fill([]api.Tx{pay(who)}, nil)
	for _, x := range h.logs[who] {
		c.Redo(x)
	}
	h.courts[who] = c
	h.does(who, c.Begin())
}

// fall: all is lost but what was recorded.
func (h *hall) fall(who int) {
	h.falls++
	h.rise(who)
}

// does what a court wants: it is recorded, and sent; in a storm it may fall between.
func (h *hall) does(who int, l []api.Record) {
	if h.stormy && len(l) > 0 && h.Intn(10) == 0 {
		h.logs[who] = append(h.logs[who], l[:h.Intn(len(l)+1)]...)
		h.fall(who)
		return
	}
	h.logs[who] = append(h.logs[who], l...)
	m := api.Message{From: who, Height: 1}
	for _, x := range l {
		switch x.Kind {
		case api.Voted:
			h.says(x.Vote)
			m.Votes = append(m.Votes, x.Vote)
		case api.Moved:
			h.says(court.Moving(h.tip, x.Motion))
			h.blocks = append(h.blocks, x.Motion.Block)
			m.Motions = append(m.Motions, x.Motion)
		case api.Closed:
			m.Knowns = append(m.Knowns, x.Known)
		}
	}
	if len(l) > 0 {
		h.sends(m)
	}
}

// says keeps what one who is honest says, and asks whether it said something else there.
func (h *hall) says(v api.Vote) {
	for _, x := range h.said {
		if x.Round == v.Round && x.Stage == v.Stage && x.From == v.From && x != v {
			h.t.Fatalf("R4, R8: %d says %v, and said %v", v.From, v, x)
		}
	}
	h.said = append(h.said, v)
	h.rounds = max(h.rounds, v.Round)
}

func (h *hall) sends(m api.Message) {
	for _, who := range h.honest {
		if who != m.From {
			h.net = append(h.net, letter{who, m})
		}
	}
}

func (h *hall) hears(l letter) {
	for _, k := range l.m.Knowns {
		r, _ := h.courts[l.to].Known(k)
		h.does(l.to, r)
	}
	for _, m := range l.m.Motions {
		r, g, e := h.courts[l.to].Motion(m)
		h.guilt(g, e)
		h.does(l.to, r)
	}
	for _, v := range l.m.Votes {
		r, g, e := h.courts[l.to].Vote(v)
		h.guilt(g, e)
		h.does(l.to, r)
	}
}

func (h *hall) guilt(g api.Guilt, e api.Errno) {
	if e == api.ErrGuilt && !slices.Contains(h.liars, g.A.From) {
		h.t.Fatalf("R7: %v is said to be guilt, but %d is honest", g, g.A.From)
	}
}

func (h *hall) tick(who int) {
	h.does(who, h.courts[who].Tick())
	m := h.courts[who].Says()
	m.From = who
	h.sends(m)
}

// lie sends something of a liar to one who is honest.
func (h *hall) lie() {
	if len(h.liars) == 0 || len(h.blocks) == 0 {
		return
	}
	who := h.liars[h.Intn(len(h.liars))]
	m := api.Message{From: who, Height: 1}
	round := h.Intn(h.rounds + 2)
	b := h.blocks[h.Intn(len(h.blocks))]
	for range 1 + h.Intn(3) {
		v := api.Vote{Height: 1, Round: round, Stage: 1 + h.Intn(2), From: who}
		if h.Intn(4) > 0 {
			v.Has, v.Block = true, h.tip.Name(b.Header)
		}
		m.Votes = append(m.Votes, v)
	}
	if h.tip.Leader(round) == who {
		m.Motions = append(m.Motions, h.falseMotion(round, who))
	}
	if x, ok := h.certOf(round, b); ok {
		m.Knowns = append(m.Knowns, api.Known{Cert: x, Block: b})
	}
	h.net = append(h.net, letter{h.honest[h.Intn(len(h.honest))], m})
}

func (h *hall) falseMotion(round, who int) api.Motion {
	b := h.blocks[h.Intn(len(h.blocks))]
	for r := h.Intn(round + 1); r >= 0; r-- {
		if x, ok := h.certOf(r, b); ok && r < round {
			return api.Motion{Round: round, From: who, Block: b, Basis: []api.Cert{x}}
		}
	}
	b, _ = h.tip.Make(who, []api.Tx{pay(90 + h.Intn(3))}, nil)
	h.blocks = append(h.blocks, b)
	return api.Motion{Round: round, From: who, Block: b}
}

// certOf is what can be made of the votes at First that were said and the liars' own.
func (h *hall) certOf(round int, b api.Block) (api.Cert, bool) {
	x := api.Cert{Height: 1, Round: round, Stage: api.First, Has: true, Block: h.tip.Name(b.Header), Froms: slices.Clone(h.liars)}
	for _, v := range h.said {
		if v.Round == round && v.Stage == api.First && v.Has && v.Block == x.Block {
			x.Froms = append(x.Froms, v.From)
		}
	}
	slices.Sort(x.Froms)
	x.Froms = slices.Compact(x.Froms)
	return x, bench.Quorum(h.tip.Bench(), x.Froms)
}

// storm does something, whatever comes.
func (h *hall) storm() {
	who := h.honest[h.Intn(len(h.honest))]
	switch k := h.Intn(30); {
	case k < 10:
		h.tick(who)
	case k < 13:
		h.lie()
	case k == 13:
		h.fall(who)
	case len(h.net) > 0:
		i := h.Intn(len(h.net))
		l := h.net[i]
		if h.Intn(12) > 0 { // now and then it is doubled
			h.net = slices.Delete(h.net, i, i+1)
		}
		if h.Intn(10) >= h.loss {
			h.hears(l)
		}
	}
}

// calm: all tick, and all that is said is heard.
func (h *hall) calm() {
	for _, who := range h.honest {
		h.tick(who)
	}
	h.lie()
	for len(h.net) > 0 {
		l := h.net[0]
		h.net = h.net[1:]
		h.hears(l)
	}
}

// agreed is how many are done. No two of them may be so with unlike blocks.
func (h *hall) agreed() int {
	var names []api.Digest
	for _, who := range h.honest {
		for _, k := range h.courts[who].Done() {
			names = append(names, h.tip.Name(k.Block.Header))
			if h.tip.Name(k.Block.Header) != k.Cert.Block || !bench.Quorum(h.tip.Bench(), k.Cert.Froms) {
				h.t.Fatalf("R5: %d is done with %v", who, k)
			}
			if _, _, e := h.tip.Take(k.Block); e != api.OK {
				h.t.Fatalf("R1: %d is done with a block that is not taken: %d", who, e)
			}
		}
	}
	if len(names) > 0 && slices.Min(names) != slices.Max(names) {
		h.t.Fatalf("two are done with unlike blocks: %v", names)
	}
	return len(names)
}

func TestAllWhoAreHonestAgree(t *testing.T) {
	r := rand.New(rand.NewSource(19))
	liars, falls, late, inStorms := 0, 0, 0, 0
	for range 150 {
		h := newHall(t, r)
		h.stormy = true
		for range r.Intn(1500) {
			h.storm()
		}
		h.stormy = false
		inStorms += min(h.agreed(), 1)
		for turns := 0; h.agreed() < len(h.honest); turns++ {
			if turns > 400 {
				t.Fatalf("it does not go on: %d of %d are done, in the round %d", h.agreed(), len(h.honest), h.rounds)
			}
			h.calm()
		}
		liars, falls = liars+len(h.liars), falls+h.falls
		if h.rounds > 1 {
			late++
		}
	}
	if liars < 50 || falls < 50 || late < 20 || inStorms < 5 {
		t.Errorf("what is drawn comes to little: %d liars, %d falls, %d beyond the round 1, %d in a storm", liars, falls, late, inStorms)
	}
}
