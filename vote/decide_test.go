package vote_test

import (
	"math"
	"slices"
	"testing"

	"assize/api"
	"assize/vote"
)

// counted is a count of the height 1 with these votes, all of which must be taken.
func counted(t *testing.T, l []api.Seat, votes ...api.Vote) *vote.Count {
	t.Helper()
	c := vote.New(l, 1)
	for _, v := range votes {
		if _, e := c.Add(v); e != api.OK {
			t.Fatalf("Add(%v): %d", v, e)
		}
	}
	return c
}

// of is a vote for a block of each of these.
func of(round, stage int, block api.Digest, froms ...int) []api.Vote {
	var l []api.Vote
	for _, who := range froms {
		l = append(l, ballot(round, stage, block, who))
	}
	return l
}

func none(round, stage int, froms ...int) []api.Vote {
	var l []api.Vote
	for _, who := range froms {
		l = append(l, blank(round, stage, who))
	}
	return l
}

func all(l ...[]api.Vote) []api.Vote { return slices.Concat(l...) }

func TestLead(t *testing.T) {
	heavy := seats(1, 5, 2, 1, 3, 3)
	nothing := api.Cert{}
	for _, x := range []struct {
		what  string
		l     []api.Seat
		votes []api.Vote
		stage int
		want  api.Cert
		ok    bool
	}{
		{"no votes", four(), nil, 1, nothing, false},
		{"two of four", four(), of(2, 1, 7, 1, 2), 1, nothing, false},
		{"three of four", four(), of(2, 1, 7, 4, 1, 2), 1, certOf(2, 1, 7, 1, 2, 4), true},
		{"all", four(), of(2, 2, 7, 4, 3, 2, 1), 2, certOf(2, 2, 7, 1, 2, 3, 4), true},
		{"for none", four(), none(2, 1, 3, 2, 1), 1, api.Cert{Height: 1, Round: 2, Stage: 1, Froms: []int{1, 2, 3}}, true},
		{"the others are not among them", four(), all(of(2, 1, 8, 1), of(2, 1, 7, 4, 3, 2)), 1, certOf(2, 1, 7, 2, 3, 4), true},
		{"one for none is not among them", four(), all(none(2, 1, 1), of(2, 1, 7, 4, 3, 2)), 1, certOf(2, 1, 7, 2, 3, 4), true},
		{"the block 0 is not none", four(), all(none(2, 1, 1), of(2, 1, 0, 2, 3)), 1, nothing, false},
		{"the block 0", four(), all(none(2, 1, 1), of(2, 1, 0, 2, 3, 4)), 1, certOf(2, 1, 0, 2, 3, 4), true},
		{"of two stages", four(), all(of(2, 1, 7, 1, 2), of(2, 2, 7, 3, 4)), 1, nothing, false},
		{"of two rounds", four(), all(of(2, 1, 7, 1, 2), of(3, 1, 7, 3, 4)), 1, nothing, false},
		{"of another round", four(), of(3, 1, 7, 1, 2, 3), 1, nothing, false},
		{"of another stage", four(), of(2, 1, 7, 1, 2, 3), 2, nothing, false},
		{"just two thirds of the weight", heavy, of(2, 1, 7, 1, 2), 1, nothing, false},
		{"by weight", heavy, of(2, 1, 7, 3, 1), 1, certOf(2, 1, 7, 1, 3), true},
		{"motions lead nothing", four(), of(2, 0, 7, 1, 2, 3, 4), 0, nothing, false},
		{"no stage", four(), of(2, 1, 7, 1, 2, 3, 4), 3, nothing, false},
		{"a stage below 0", four(), of(2, 1, 7, 1, 2, 3, 4), -1, nothing, false},
	} {
		c := counted(t, x.l, x.votes...)
		if got, ok := c.Lead(2, x.stage); ok != x.ok || !sameCert(got, x.want) {
			t.Errorf("V4: Lead, %s: %v %t, not %v %t", x.what, got, ok, x.want, x.ok)
		}
	}
}

func TestAny(t *testing.T) {
	heavy := seats(1, 5, 2, 1, 3, 3)
	for _, x := range []struct {
		what  string
		l     []api.Seat
		votes []api.Vote
		stage int
		want  bool
	}{
		{"no votes", four(), nil, 1, false},
		{"two of four", four(), of(2, 1, 7, 1, 2), 1, false},
		{"three of four", four(), of(2, 1, 7, 1, 2, 4), 1, true},
		{"for whatever", four(), all(of(2, 1, 7, 1), of(2, 1, 8, 2), none(2, 1, 4)), 1, true},
		{"at Second", four(), all(of(2, 2, 7, 1), of(2, 2, 8, 2), none(2, 2, 4)), 2, true},
		{"at Moves", four(), all(of(2, 0, 7, 1), of(2, 0, 8, 2, 3)), 0, true},
		{"of two stages", four(), all(of(2, 1, 7, 1, 2), of(2, 2, 7, 3, 4)), 1, false},
		{"of two rounds", four(), all(of(2, 1, 7, 1, 2), of(3, 1, 7, 3, 4)), 1, false},
		{"just two thirds of the weight", heavy, all(of(2, 1, 7, 1), none(2, 1, 2)), 1, false},
		{"by weight", heavy, all(of(2, 1, 7, 1), none(2, 1, 3)), 1, true},
		{"no stage", four(), of(2, 1, 7, 1, 2, 4), 3, false},
		{"a stage below 0", four(), of(2, 1, 7, 1, 2, 4), -1, false},
	} {
		if got := counted(t, x.l, x.votes...).Any(2, x.stage); got != x.want {
			t.Errorf("V4: Any, %s: %t", x.what, got)
		}
	}
	if vote.New(nil, 1).Any(0, 1) {
		t.Errorf("V4: Any where nobody has a seat")
	}
}

func TestClosed(t *testing.T) {
	nothing := api.Cert{}
	for _, x := range []struct {
		what  string
		votes []api.Vote
		want  api.Cert
		ok    bool
	}{
		{"no votes", nil, nothing, false},
		{"at First alone", of(0, 1, 7, 1, 2, 3), nothing, false},
		{"too few", of(0, 2, 7, 1, 2), nothing, false},
		{"for none alone", none(0, 2, 1, 2, 3), nothing, false},
		{"one", of(4, 2, 7, 1, 2, 3), certOf(4, 2, 7, 1, 2, 3), true},
		{"the least round of two", all(of(5, 2, 8, 1, 2, 3), of(4, 2, 7, 2, 3, 4)), certOf(4, 2, 7, 2, 3, 4), true},
		{"the least one that is for a block", all(none(0, 2, 1, 2, 3), of(1, 2, 9, 1, 2), of(2, 2, 7, 1, 3, 4), of(3, 2, 8, 1, 2, 3)), certOf(2, 2, 7, 1, 3, 4), true},
		{"the greatest round", of(top, 2, 7, 1, 2, 3), certOf(top, 2, 7, 1, 2, 3), true},
	} {
		if got, ok := counted(t, four(), x.votes...).Closed(); ok != x.ok || !sameCert(got, x.want) {
			t.Errorf("V5: Closed, %s: %v %t, not %v %t", x.what, got, ok, x.want, x.ok)
		}
	}
}

func TestBest(t *testing.T) {
	nothing := api.Cert{}
	many := all(of(1, 1, 7, 1, 2, 3), none(2, 1, 1, 2, 3), of(3, 2, 6, 1, 2, 3), of(4, 1, 8, 2, 3, 4), of(6, 1, 9, 1, 2), of(7, 1, 5, 1, 2, 3, 4))
	for _, x := range []struct {
		what  string
		round int
		votes []api.Vote
		want  api.Cert
		ok    bool
	}{
		{"no votes", 9, nil, nothing, false},
		{"ahead of the first", 0, many, nothing, false},
		{"below 0", -1, many, nothing, false},
		{"the least of all numbers", math.MinInt, many, nothing, false},
		{"of this round", 1, many, certOf(1, 1, 7, 1, 2, 3), true},
		{"for none does not count", 2, many, certOf(1, 1, 7, 1, 2, 3), true},
		{"at Second does not count", 3, many, certOf(1, 1, 7, 1, 2, 3), true},
		{"the greatest", 4, many, certOf(4, 1, 8, 2, 3, 4), true},
		{"too few do not count", 6, many, certOf(4, 1, 8, 2, 3, 4), true},
		{"the last", 7, many, certOf(7, 1, 5, 1, 2, 3, 4), true},
		{"beyond the last", math.MaxInt, many, certOf(7, 1, 5, 1, 2, 3, 4), true},
	} {
		if got, ok := counted(t, four(), x.votes...).Best(x.round); ok != x.ok || !sameCert(got, x.want) {
			t.Errorf("V5: Best(%d), %s: %v %t, not %v %t", x.round, x.what, got, ok, x.want, x.ok)
		}
	}
}

func TestAhead(t *testing.T) {
	heavy := seats(1, 5, 2, 1, 3, 3)
	for _, x := range []struct {
		what  string
		l     []api.Seat
		round int
		votes []api.Vote
		want  int
	}{
		{"no votes", four(), 3, nil, 3},
		{"no votes, below 0", four(), -1, nil, -1},
		{"one of four", four(), 0, of(5, 1, 7, 1), 0},
		{"one of four, often", four(), 0, all(of(5, 0, 7, 1), of(5, 1, 7, 1), of(6, 1, 7, 1), of(5, 2, 7, 1)), 0},
		{"two of four", four(), 0, of(5, 1, 7, 1, 2), 5},
		{"at any stage", four(), 0, all(of(5, 2, 7, 1), none(5, 1, 2)), 5},
		{"a motion too", four(), 0, all(of(5, 0, 7, 1), of(5, 1, 7, 2)), 5},
		{"in it or beyond it", four(), 0, all(of(5, 1, 7, 1), of(9, 1, 7, 2)), 5},
		{"the greatest", four(), 0, all(of(5, 1, 7, 1, 2, 3), of(7, 1, 7, 1, 2), of(9, 1, 7, 1)), 7},
		{"not this round", four(), 5, of(5, 1, 7, 1, 2, 3), 5},
		{"not one ahead of it", four(), 6, of(5, 1, 7, 1, 2, 3), 6},
		{"above this one alone", four(), 5, all(of(5, 1, 7, 1, 3), of(6, 1, 7, 2)), 5},
		{"from below 0", four(), -1, of(0, 1, 7, 1, 2), 0},
		{"from the least of all numbers", four(), math.MinInt, of(0, 1, 7, 1, 2), 0},
		{"from the greatest of all numbers", four(), math.MaxInt, of(0, 1, 7, 1, 2), math.MaxInt},
		{"just a third of the weight", heavy, 0, of(4, 1, 7, 3), 0},
		{"more than a third of the weight", heavy, 0, all(of(4, 1, 7, 3), of(3, 1, 7, 2)), 3},
		{"one who weighs it", heavy, 0, all(of(4, 1, 7, 3), of(2, 1, 7, 1)), 2},
	} {
		if got := counted(t, x.l, x.votes...).Ahead(x.round); got != x.want {
			t.Errorf("V5: Ahead(%d), %s: %d, not %d", x.round, x.what, got, x.want)
		}
	}
}

func TestCountsAreTheirOwn(t *testing.T) {
	l := four()
	c := counted(t, l, of(0, 1, 7, 1, 2, 3)...)
	l[0].Who, l[1].Weight = 9, 99
	if _, e := c.Add(ballot(1, 1, 7, 9)); e != api.ErrSeat {
		t.Errorf("P2: the bench that was handed in is kept: %d", e)
	}
	one, _ := c.Lead(0, 1)
	other, _ := c.Best(0)
	one.Froms[0], other.Froms[1] = 77, 78
	votes := c.Votes()
	votes[0].Block = 9
	if again, ok := c.Lead(0, 1); !ok || !sameCert(again, certOf(0, 1, 7, 1, 2, 3)) {
		t.Errorf("P2: what Lead gave is not the caller's alone: %v %t", again, ok)
	}
	if again, ok := c.Best(0); !ok || !sameCert(again, certOf(0, 1, 7, 1, 2, 3)) {
		t.Errorf("P2: what Best gave is not the caller's alone: %v %t", again, ok)
	}
	if got := c.Votes(); !slices.Equal(got, of(0, 1, 7, 1, 2, 3)) {
		t.Errorf("P2: what Votes gave is not the caller's alone: %v", got)
	}
}

func TestManyRounds(t *testing.T) {
	c := vote.New(seats(1, 1, 2, 9), 1)
	for i := range 20000 {
		if _, e := c.Add(ballot(20000-i, 1, 7, 1)); e != api.OK {
			t.Fatalf("Add: %d", e)
		}
	}
	if got := c.Ahead(0); got != 0 {
		t.Errorf("V5: Ahead(0), of many votes of a light one: %d", got)
	}
	if _, ok := c.Best(30000); ok {
		t.Errorf("V5: Best, of many votes of a light one")
	}
	if got := len(c.Votes()); got != 20000 {
		t.Errorf("V3: %d votes are there, not 20000", got)
	}
}
