package vote_test

import (
	"math/rand"
	"slices"
	"sort"
	"testing"

	"assize/api"
	"assize/vote"
)

// plain is a count as the chapter tells it: a heap of votes, all of which are gone through for each question.
type plain struct {
	seats []api.Seat
	votes []api.Vote
}

func (p *plain) weighs(third int, is func(api.Vote) bool) (bool, []int) {
	total, sum := 0, 0
	var froms []int
	for _, s := range p.seats {
		total += s.Weight
		for _, v := range p.votes {
			if v.From == s.Who && is(v) {
				sum += s.Weight
				froms = append(froms, s.Who)
				break
			}
		}
	}
	return 3*sum > third*total, froms
}

func (p *plain) add(v api.Vote) (api.Guilt, api.Errno) {
	seat := false
	for _, s := range p.seats {
		seat = seat || s.Who == v.From
	}
	switch {
	case v.Height > api.MaxNumber:
		return api.Guilt{}, api.ErrLimit
	case v.From < 1, v.Stage > 2, !v.Has && v.Stage == 0:
		return api.Guilt{}, api.ErrForm
	case v.Height != 1:
		return api.Guilt{}, api.ErrHeight
	case !seat:
		return api.Guilt{}, api.ErrSeat
	}
	for _, x := range p.votes {
		if x.Round == v.Round && x.Stage == v.Stage && x.From == v.From {
			if x == v {
				return api.Guilt{}, api.ErrSaid
			}
			return api.Guilt{A: x, B: v}, api.ErrGuilt
		}
	}
	p.votes = append(p.votes, v)
	return api.Guilt{}, api.OK
}

func (p *plain) sorted() []api.Vote {
	l := slices.Clone(p.votes)
	key := func(v api.Vote) int { return v.Round*1000 + v.Stage*100 + v.From }
	sort.Slice(l, func(i, j int) bool { return key(l[i]) < key(l[j]) })
	return l
}

func (p *plain) lead(round, stage int) (api.Cert, bool) {
	for _, x := range p.votes {
		ok, froms := p.weighs(2, func(v api.Vote) bool {
			return v.Round == round && v.Stage == stage && v.Has == x.Has && v.Block == x.Block
		})
		if ok && stage > 0 {
			return api.Cert{Height: 1, Round: round, Stage: stage, Has: x.Has, Block: x.Block, Froms: froms}, true
		}
	}
	return api.Cert{}, false
}

func (p *plain) any(round, stage int) bool {
	ok, _ := p.weighs(2, func(v api.Vote) bool { return v.Round == round && v.Stage == stage })
	return ok
}

// rounds: all that are drawn lie below it.
const rounds = 6

func (p *plain) closed() (api.Cert, bool) {
	for r := range rounds {
		if c, ok := p.lead(r, api.Second); ok && c.Has {
			return c, true
		}
	}
	return api.Cert{}, false
}

func (p *plain) best(round int) (api.Cert, bool) {
	for r := min(round, rounds); r >= 0; r-- {
		if c, ok := p.lead(r, api.First); ok && c.Has {
			return c, true
		}
	}
	return api.Cert{}, false
}

func (p *plain) ahead(round int) int {
	for r := rounds; r > round; r-- {
		if ok, _ := p.weighs(1, func(v api.Vote) bool { return v.Round >= r }); ok {
			return r
		}
	}
	return round
}

func drawn(r *rand.Rand) api.Vote {
	v := api.Vote{Height: 1, Round: r.Intn(rounds), Stage: r.Intn(3), Has: r.Intn(5) > 0, From: 1 + r.Intn(7)}
	if v.Has {
		v.Block = api.Digest(r.Intn(11) / 8)
	}
	switch r.Intn(60) {
	case 0:
		v.Height = 2
	case 1:
		v.Height = api.MaxNumber + 1
	case 2:
		v.From = 0
	case 3:
		v.Stage = 3
	}
	return v
}

func drawnBench(r *rand.Rand) []api.Seat {
	var l []api.Seat
	who := 0
	for range 1 + r.Intn(6) {
		who += 1 + r.Intn(2)
		l = append(l, api.Seat{Who: who, Weight: 1 + r.Intn(4)})
	}
	return l
}

func holdsAgainst(t *testing.T, c *vote.Count, p *plain) {
	t.Helper()
	for round := -1; round <= rounds; round++ {
		for stage := -1; stage < 4; stage++ {
			a, ok := c.Lead(round, stage)
			b, too := p.lead(round, stage)
			if ok != too || !sameCert(a, b) {
				t.Fatalf("V4: of %v and %v, Lead(%d, %d) is %v %t, not %v %t", p.seats, p.votes, round, stage, a, ok, b, too)
			}
			if got := c.Any(round, stage); got != p.any(round, stage) {
				t.Fatalf("V4: of %v and %v, Any(%d, %d) is %t", p.seats, p.votes, round, stage, got)
			}
		}
		a, ok := c.Best(round)
		b, too := p.best(round)
		if ok != too || !sameCert(a, b) {
			t.Fatalf("V5: of %v and %v, Best(%d) is %v %t, not %v %t", p.seats, p.votes, round, a, ok, b, too)
		}
		if got, want := c.Ahead(round), p.ahead(round); got != want {
			t.Fatalf("V5: of %v and %v, Ahead(%d) is %d, not %d", p.seats, p.votes, round, got, want)
		}
	}
	a, ok := c.Closed()
	b, too := p.closed()
	if ok != too || !sameCert(a, b) {
		t.Fatalf("V5: of %v and %v, Closed is %v %t, not %v %t", p.seats, p.votes, a, ok, b, too)
	}
	if got, want := c.Votes(), p.sorted(); !slices.Equal(got, want) {
		t.Fatalf("V3: Votes is %v, not %v", got, want)
	}
}

func TestCountsAsToldAnew(t *testing.T) {
	r := rand.New(rand.NewSource(21))
	for range 700 {
		l := drawnBench(r)
		c, p := vote.New(l, 1), &plain{seats: l}
		for range r.Intn(90) {
			v := drawn(r)
			g, e := c.Add(v)
			h, f := p.add(v)
			if g != h || e != f {
				t.Fatalf("V3: of %v and %v, Add(%v) is %v %d, not %v %d", l, p.votes, v, g, e, h, f)
			}
			if e == api.ErrGuilt && !vote.Proves(g) {
				t.Fatalf("V1: the guilt %v, which Add told, proves nothing", g)
			}
		}
		holdsAgainst(t, c, p)
	}
}

// TestLeadsMayBeChecked: what a count decides the bench decides.
func TestLeadsMayBeChecked(t *testing.T) {
	r := rand.New(rand.NewSource(22))
	found := 0
	for range 300 {
		l := drawnBench(r)
		c := vote.New(l, 1)
		for range 80 {
			c.Add(drawn(r))
		}
		for round := range rounds {
			if x, ok := c.Lead(round, 1+round%2); ok {
				found++
				if e := vote.Check(l, x); e != api.OK {
					t.Fatalf("V2: Check(%v, %v), of what leads, is %d", l, x, e)
				}
				if !c.Any(round, 1+round%2) {
					t.Fatalf("V4: something leads, but not Any")
				}
			}
		}
	}
	if found < 50 {
		t.Fatalf("only %d of what was drawn lead", found)
	}
}
