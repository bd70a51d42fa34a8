package vote_test

import (
	"math"
	"slices"
	"testing"

	"assize/api"
	"assize/vote"
)

const top = api.MaxNumber

// seats makes a list of who, weight, who, weight and so on.
func seats(l ...int) []api.Seat {
	var out []api.Seat
	for i := 0; i+1 < len(l); i += 2 {
		out = append(out, api.Seat{Who: l[i], Weight: l[i+1]})
	}
	return out
}

// four: a bench in which three of four, of like weight, are a quorum, and two are some.
func four() []api.Seat { return seats(1, 1, 2, 1, 3, 1, 4, 1) }

// ballot is a vote for a block at the height 1.
func ballot(round, stage int, block api.Digest, from int) api.Vote {
	return api.Vote{Height: 1, Round: round, Stage: stage, Has: true, Block: block, From: from}
}

// blank is a vote for none.
func blank(round, stage, from int) api.Vote {
	return api.Vote{Height: 1, Round: round, Stage: stage, From: from}
}

func certOf(round, stage int, block api.Digest, froms ...int) api.Cert {
	return api.Cert{Height: 1, Round: round, Stage: stage, Has: true, Block: block, Froms: froms}
}

// change is v with something else in it.
func change(v api.Vote, how func(*api.Vote)) api.Vote {
	how(&v)
	return v
}

func sameCert(a, b api.Cert) bool {
	return a.Height == b.Height && a.Round == b.Round && a.Stage == b.Stage && a.Has == b.Has && a.Block == b.Block && slices.Equal(a.Froms, b.Froms)
}

func TestProves(t *testing.T) {
	a := ballot(2, api.First, 7, 3)
	moved := ballot(2, api.Moves, 7, 3)
	for _, x := range []struct {
		what string
		a, b api.Vote
		want bool
	}{
		{"two blocks", a, change(a, func(v *api.Vote) { v.Block = 8 }), true},
		{"a block and none", a, blank(2, api.First, 3), true},
		{"none and a block", blank(2, api.First, 3), a, true},
		{"the block 0 and none", ballot(2, api.First, 0, 3), blank(2, api.First, 3), true},
		{"at the stage Second", ballot(2, api.Second, 1, 3), blank(2, api.Second, 3), true},
		{"two motions", moved, change(moved, func(v *api.Vote) { v.Block = 8 }), true},
		{"at the greatest numbers", change(a, func(v *api.Vote) { v.Height, v.Round, v.From = top, top, top }), change(a, func(v *api.Vote) { v.Height, v.Round, v.From, v.Block = top, top, top, 1 }), true},
		{"alike", a, a, false},
		{"none twice", blank(2, api.First, 3), blank(2, api.First, 3), false},
		{"another height", a, change(a, func(v *api.Vote) { v.Height, v.Block = 2, 8 }), false},
		{"another round", a, change(a, func(v *api.Vote) { v.Round, v.Block = 3, 8 }), false},
		{"another stage", a, change(a, func(v *api.Vote) { v.Stage, v.Block = api.Second, 8 }), false},
		{"another voter", a, change(a, func(v *api.Vote) { v.From, v.Block = 4, 8 }), false},
		{"none moved", moved, blank(2, api.Moves, 3), false},
		{"none moved, first", blank(2, api.Moves, 3), moved, false},
		{"none, of a block", a, change(a, func(v *api.Vote) { v.Has = false }), false},
		{"none, of a block, first", change(a, func(v *api.Vote) { v.Has = false }), a, false},
		{"no voter", ballot(2, 1, 7, 0), ballot(2, 1, 8, 0), false},
		{"no stage", ballot(2, 3, 7, 1), ballot(2, 3, 8, 1), false},
		{"a stage below 0", ballot(2, -1, 7, 1), ballot(2, -1, 8, 1), false},
		{"a round above all", ballot(top+1, 1, 7, 1), ballot(top+1, 1, 8, 1), false},
		{"a round below 0", ballot(-1, 1, 7, 1), ballot(-1, 1, 8, 1), false},
		{"a voter above all", ballot(2, 1, 7, top+1), ballot(2, 1, 8, top+1), false},
		{"a height above all", change(a, func(v *api.Vote) { v.Height = top + 1 }), change(a, func(v *api.Vote) { v.Height, v.Block = top+1, 8 }), false},
	} {
		if got := vote.Proves(api.Guilt{A: x.a, B: x.b}); got != x.want {
			t.Errorf("V1: Proves, %s: %t", x.what, got)
		}
	}
}

func TestCheck(t *testing.T) {
	l := seats(1, 5, 2, 1, 3, 3)
	ok := certOf(0, api.Second, 7, 1, 3)
	with := func(how func(*api.Cert)) api.Cert {
		c := ok
		c.Froms = slices.Clone(ok.Froms)
		how(&c)
		return c
	}
	froms := func(l ...int) api.Cert { return with(func(c *api.Cert) { c.Froms = l }) }
	for _, x := range []struct {
		what string
		l    []api.Seat
		c    api.Cert
		want api.Errno
	}{
		{"a quorum", l, ok, api.OK},
		{"all", l, froms(1, 2, 3), api.OK},
		{"for none", l, with(func(c *api.Cert) { c.Has, c.Block = false, 0 }), api.OK},
		{"at First", l, with(func(c *api.Cert) { c.Stage = api.First }), api.OK},
		{"just two thirds", l, froms(1, 2), api.ErrWeight},
		{"nobody", l, froms(), api.ErrWeight},
		{"nobody, of nobody", nil, froms(), api.ErrWeight},
		{"one without a seat", l, froms(1, 3, 4), api.ErrSeat},
		{"one without a seat, ahead of the weight", l, froms(4), api.ErrSeat},
		{"one alone", l, froms(1), api.ErrWeight},
		{"of no bench", nil, ok, api.ErrSeat},
		{"a list of any kind", seats(3, 2, 1, 5, 2, 1), ok, api.OK},
		{"Moves", l, with(func(c *api.Cert) { c.Stage = api.Moves }), api.ErrForm},
		{"no stage", l, with(func(c *api.Cert) { c.Stage = 3 }), api.ErrForm},
		{"none, of a block", l, with(func(c *api.Cert) { c.Has = false }), api.ErrForm},
		{"Froms fall", l, froms(3, 1), api.ErrForm},
		{"twice the same", l, froms(1, 1, 3), api.ErrForm},
		{"the form ahead of the seat", l, froms(5, 4), api.ErrForm},
		{"Froms from 0 on", l, froms(0, 1, 3), api.ErrForm},
		{"too many", l, froms(1, 2, 3, 4, 5, 6, 7, 8), api.ErrLimit},
		{"the limit ahead of the form", l, with(func(c *api.Cert) { c.Height, c.Stage = top+1, 5 }), api.ErrLimit},
		{"a round below 0", l, with(func(c *api.Cert) { c.Round = -1 }), api.ErrLimit},
		{"one above all", l, froms(1, 3, top+1), api.ErrLimit},
	} {
		if got := vote.Check(x.l, x.c); got != x.want {
			t.Errorf("V2: Check, %s: %d, not %d", x.what, got, x.want)
		}
	}
}

func TestAdd(t *testing.T) {
	c := vote.New(four(), 1)
	first := ballot(0, api.First, 7, 2)
	other := ballot(0, api.First, 8, 2)
	for _, x := range []struct {
		what  string
		v     api.Vote
		e     api.Errno
		guilt api.Guilt
	}{
		{"a vote", first, api.OK, api.Guilt{}},
		{"the same", first, api.ErrSaid, api.Guilt{}},
		{"another", other, api.ErrGuilt, api.Guilt{A: first, B: other}},
		{"another once more: the first one stands", other, api.ErrGuilt, api.Guilt{A: first, B: other}},
		{"none there", blank(0, api.First, 2), api.ErrGuilt, api.Guilt{A: first, B: blank(0, api.First, 2)}},
		{"the same still", first, api.ErrSaid, api.Guilt{}},
		{"another stage", ballot(0, api.Second, 8, 2), api.OK, api.Guilt{}},
		{"another round", ballot(1, api.First, 8, 2), api.OK, api.Guilt{}},
		{"another voter", ballot(0, api.First, 8, 3), api.OK, api.Guilt{}},
		{"a motion", ballot(0, api.Moves, 8, 2), api.OK, api.Guilt{}},
		{"a motion of two", ballot(0, api.Moves, 9, 2), api.ErrGuilt, api.Guilt{A: ballot(0, api.Moves, 8, 2), B: ballot(0, api.Moves, 9, 2)}},
		{"the greatest round", ballot(top, api.First, 8, 2), api.OK, api.Guilt{}},
		{"another height", change(first, func(v *api.Vote) { v.Height = 2 }), api.ErrHeight, api.Guilt{}},
		{"another height below", change(other, func(v *api.Vote) { v.Height = 0 }), api.ErrHeight, api.Guilt{}},
		{"no seat", ballot(0, api.First, 7, 5), api.ErrSeat, api.Guilt{}},
		{"no seat, another height", change(first, func(v *api.Vote) { v.Height, v.From = 2, 5 }), api.ErrHeight, api.Guilt{}},
		{"no voter", ballot(0, api.First, 7, 0), api.ErrForm, api.Guilt{}},
		{"none moved", blank(0, api.Moves, 2), api.ErrForm, api.Guilt{}},
		{"no stage, another height", change(first, func(v *api.Vote) { v.Height, v.Stage = 2, 3 }), api.ErrForm, api.Guilt{}},
		{"none, of a block", change(first, func(v *api.Vote) { v.Has = false }), api.ErrForm, api.Guilt{}},
		{"a round above all", ballot(top+1, api.First, 7, 2), api.ErrLimit, api.Guilt{}},
		{"a round below 0", ballot(-1, api.First, 7, 2), api.ErrLimit, api.Guilt{}},
		{"a limit and no form", ballot(-1, 5, 7, 0), api.ErrLimit, api.Guilt{}},
		{"no seat, of all numbers", ballot(0, 1, 7, math.MaxInt), api.ErrLimit, api.Guilt{}},
	} {
		if g, e := c.Add(x.v); e != x.e || g != x.guilt {
			t.Errorf("V3: Add, %s: %v %d, not %v %d", x.what, g, e, x.guilt, x.e)
		}
	}
	want := []api.Vote{ballot(0, api.Moves, 8, 2), first, ballot(0, api.First, 8, 3), ballot(0, api.Second, 8, 2), ballot(1, api.First, 8, 2), ballot(top, api.First, 8, 2)}
	if got := c.Votes(); !slices.Equal(got, want) {
		t.Errorf("V3: Votes is %v, not %v", got, want)
	}
}

func TestCountsOfOtherHeights(t *testing.T) {
	for _, height := range []int{0, 5, top} {
		c := vote.New(four(), height)
		if _, e := c.Add(change(ballot(0, 1, 7, 1), func(v *api.Vote) { v.Height = height })); e != api.OK {
			t.Errorf("V3: a vote of the height %d: %d", height, e)
		}
		if _, e := c.Add(ballot(0, 1, 7, 2)); e != api.ErrHeight {
			t.Errorf("V3: a vote of the height 1 in a count of %d: %d", height, e)
		}
	}
	for _, height := range []int{-1, top + 1} {
		if _, e := vote.New(four(), height).Add(change(ballot(0, 1, 7, 1), func(v *api.Vote) { v.Height = height })); e != api.ErrLimit {
			t.Errorf("V3: a vote of the height %d: %d", height, e)
		}
	}
	if _, e := vote.New(nil, 1).Add(ballot(0, 1, 7, 1)); e != api.ErrSeat {
		t.Errorf("V3: a vote where nobody has a seat: %d", e)
	}
}
