package node_test

import (
	"math/rand"
	"slices"
	"testing"

	"assize/api"
	"assize/bench"
	"assize/block"
	"assize/court"
	"assize/state"
)

// storm is a hall whose net loses, doubles and turns about, whose logs die,
// and in which liars, who weigh under a third, say what they like.
type storm struct {
	*hall
	*rand.Rand
	liars []int
	said  map[place]api.Vote // by those who are honest
	names []api.Digest       // of blocks that were moved
	next  int                // nonce of 50
	falls int
}

// place is where one says something once.
type place struct {
	height, round, stage, from int
}

func newStorm(t *testing.T, r *rand.Rand) *storm {
	g := api.Genesis{Chain: 1, Width: 8, Epoch: 1 + r.Intn(3), Gas: 900}
	for i := range 4 + r.Intn(4) {
		g.Starts = append(g.Starts, api.Start{Who: i + 1, Balance: 500, Bond: 1 + r.Intn(3)})
	}
	g.Starts = append(g.Starts, api.Start{Who: 50, Balance: 9000})
	s := &storm{Rand: r, said: map[place]api.Vote{}}
	l := tipOf(t, g).Bench()
	var honest []int
	for _, x := range l {
		if r.Intn(2) == 0 && 3*(bench.Weight(l, s.liars)+x.Weight) < bench.Total(l) {
			s.liars = append(s.liars, x.Who)
		} else {
			honest = append(honest, x.Who)
		}
	}
	s.hall = newHall(t, g, honest...)
	s.heard = s.hears
	for _, who := range honest {
		s.rise(who)
	}
	return s
}

// hears asks whether what one who is honest says is unlike what it said there.
func (s *storm) hears(from int, m api.Message) {
	for _, x := range m.Motions {
		s.names = append(s.names, tipOf(s.t, s.g).Name(x.Block.Header))
		if x.From == from {
			s.once(court.Moving(tipOf(s.t, s.g), x))
		}
	}
	for _, v := range m.Votes {
		if v.From == from {
			s.once(v)
		}
	}
}

func (s *storm) once(v api.Vote) {
	at := place{v.Height, v.Round, v.Stage, v.From}
	if x, there := s.said[at]; there && x != v {
		s.t.Fatalf("U1, U2: %d says %v, and said %v", v.From, v, x)
	}
	s.said[at] = v
}

func (s *storm) someone() int { return s.who[s.Intn(len(s.who))] }

// lie is what a liar sends.
func (s *storm) lie() {
	if len(s.liars) == 0 {
		return
	}
	who := s.liars[s.Intn(len(s.liars))]
	height := 1
	for _, n := range s.nodes {
		h, _, _ := n.Height()
		height = max(height, h+1)
	}
	m := api.Message{From: who, Height: height, To: s.Intn(2) * s.someone()}
	for range 1 + s.Intn(3) {
		v := api.Vote{Height: height, Round: s.Intn(3), Stage: 1 + s.Intn(2), From: who}
		if len(s.names) > 0 && s.Intn(4) > 0 {
			v.Has, v.Block = true, s.names[max(0, len(s.names)-1-s.Intn(3))]
		}
		m.Votes = append(m.Votes, v)
	}
	s.send(m)
}

func (s *storm) submit() {
	if n := s.nodes[s.someone()]; n != nil && n.Submit(pay(50, s.next, 1)) == api.OK {
		s.next++
	}
}

// blows does something, whatever comes.
func (s *storm) blows(loss int) {
	who := s.someone()
	switch k := s.Intn(60); {
	case k < 12:
		s.tick(who)
	case k < 15:
		s.lie()
	case k == 15 && s.Intn(8) == 0:
		s.submit()
	case k == 16:
		s.logs[who].Arm(1+s.Intn(6), s.Intn(400))
	case k == 17 && (s.nodes[who] == nil || s.Intn(4) == 0):
		s.falls++
		s.rise(who)
	case len(s.net) > 0:
		i := max(0, len(s.net)-1-s.Intn(80)) // what is old comes late, if at all
		l := s.net[i]
		if s.Intn(12) > 0 { // now and then it is doubled
			s.net = slices.Delete(s.net, i, i+1)
		}
		if s.Intn(10) >= loss {
			s.take(l)
		}
	}
}

// agree asks whether all have the same blocks, as far as they have some, and whether money is kept and only liars are jailed.
func (s *storm) agree() {
	s.t.Helper()
	tips := map[int]block.Tip{}
	own, _ := state.Money(tipOf(s.t, s.g).Tree())
	for _, who := range s.who {
		n := s.nodes[who]
		if n == nil {
			continue
		}
		height, _, _ := n.Height()
		for h := range height + 1 {
			tip, _ := n.Tip(h)
			if x, there := tips[h]; there && x.Header() != tip.Header() {
				s.t.Fatalf("two have unlike blocks at the height %d: %v and %v", h, x.Header(), tip.Header())
			}
			tips[h] = tip
		}
		tip, _ := n.Tip(height)
		if got, _ := state.Money(tip.Tree()); got != own {
			s.t.Fatalf("money is not kept: %d, not %d", got, own)
		}
		for _, x := range s.g.Starts {
			if account(tip, x.Who).Jailed && !slices.Contains(s.liars, x.Who) {
				s.t.Fatalf("%d is jailed, and did not lie", x.Who)
			}
		}
		for _, g := range n.Guilts() {
			if !slices.Contains(s.liars, g.A.From) {
				s.t.Fatalf("U4: %v is said to be guilt, but %d is honest", g, g.A.From)
			}
		}
	}
}

// settled: has each one so many blocks, and was all that was submitted applied?
func (s *storm) settled(height int) bool {
	for _, who := range s.who {
		h, _, _ := s.nodes[who].Height()
		if h < height || s.account(who, 50).Nonce < s.next {
			return false
		}
	}
	return true
}

// calmDown: all are up, and what is sent comes.
func (s *storm) calmDown() {
	for _, who := range s.who {
		s.logs[who].Arm(0, 0)
		if s.nodes[who] == nil {
			s.rise(who)
		}
	}
	// What waited where somebody fell is gone: it is submitted once more.
	for i := range s.next {
		s.nodes[s.who[0]].Submit(pay(50, i, 1))
	}
}

func TestStorms(t *testing.T) {
	r := rand.New(rand.NewSource(22))
	falls, liars, jailed, inStorms := 0, 0, 0, 0
	for range 60 {
		s := newStorm(t, r)
		loss := r.Intn(6)
		for range r.Intn(400) {
			for range 8 {
				s.blows(loss)
			}
			s.agree()
		}
		s.calmDown()
		height, _, _ := s.nodes[s.who[0]].Height()
		inStorms += height
		for turns := 0; !s.settled(height + 3); turns++ {
			if turns > 200 {
				t.Fatalf("it does not go on: %s", s.look(s.who[0]))
			}
			s.lie()
			s.calm(1)
			s.agree()
		}
		falls, liars = falls+s.falls, liars+len(s.liars)
		for _, who := range s.liars {
			if s.account(s.who[0], who).Jailed {
				jailed++
			}
		}
	}
	if falls < 100 || liars < 40 || jailed < 10 || inStorms < 60 {
		t.Errorf("what is drawn comes to little: %d falls, %d liars, %d of them jailed, %d blocks in storms", falls, liars, jailed, inStorms)
	}
}
