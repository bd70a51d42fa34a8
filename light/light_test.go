package light_test

import (
	"math"
	"slices"
	"testing"

	"assize/api"
	"assize/bench"
	"assize/digest"
	"assize/light"
	"assize/wire"
)

const top = api.MaxNumber

// seats makes a list of who, weight, who, weight and so on.
func seats(l ...int) []api.Seat {
	var out []api.Seat
	for i := 0; i+1 < len(l); i += 2 {
		out = append(out, api.Seat{Who: l[i], Weight: l[i+1]})
	}
	return out
}

// believed is a view of the height 4, in epochs of 3: the next height, 5, is of the epoch 1, with 4 and 6.
func believed() api.View {
	return api.View{Chain: 1, Width: 8, Epoch: 3, Height: 4, State: 11, Seats: seats(1, 5, 2, 1, 3, 3)}
}

// shown is a sight of a height that a quorum of believed has decided.
func shown(height int) api.Sight {
	s := api.Sight{Seats: seats(2, 4, 7, 1)}
	s.Header = api.Header{Chain: 1, Height: height, Parent: 21, Txs: 22, Guilts: 23, State: 24, Results: 25, Proposer: 3}
	s.Header.Bench = bench.Digest(8, s.Seats)
	s.Cert = api.Cert{Height: height, Round: 2, Stage: api.Second, Has: true, Froms: []int{1, 3}}
	return named(s)
}

// named is the sight with a cert for its header.
func named(s api.Sight) api.Sight {
	s.Cert.Block = light.Name(8, s.Header)
	return s
}

// but is shown(5) with something else in it, for which, then, the cert is.
func but(how func(*api.Sight)) api.Sight {
	s := shown(5)
	how(&s)
	return named(s)
}

// spoilt is shown(5) with something else in it, whatever its cert is for.
func spoilt(how func(*api.Sight)) api.Sight {
	s := shown(5)
	how(&s)
	return s
}

func viewBut(how func(*api.View)) api.View {
	v := believed()
	how(&v)
	return v
}

func sameView(a, b api.View) bool {
	return a.Chain == b.Chain && a.Width == b.Width && a.Epoch == b.Epoch && a.Height == b.Height && a.State == b.State && slices.Equal(a.Seats, b.Seats)
}

func TestName(t *testing.T) {
	for _, h := range []api.Header{{}, shown(5).Header, {Chain: top, Height: top, Proposer: top}} {
		s, e := wire.PutHeader(h)
		if e != api.OK {
			t.Fatalf("PutHeader(%v): %d", h, e)
		}
		for _, w := range []int{-1, 0, 1, 3, 8, 9} {
			want := digest.OfImage(w, api.Image{Tag: api.TagHeader, Parts: []string{s}})
			if got := light.Name(w, h); got != want {
				t.Errorf("L1: Name(%d, %v) is %x, not %x", w, h, got, want)
			}
		}
	}
	none := digest.Of(8, api.TagHeader, "")
	for _, h := range []api.Header{{Chain: -1}, {Height: top + 1}, {Proposer: -1}} {
		if got := light.Name(8, h); got != none {
			t.Errorf("L1: Name(8, %v) is %x, not that of no bytes, %x", h, got, none)
		}
	}
}

func TestEpoch(t *testing.T) {
	for _, x := range []struct{ height, epoch, want int }{
		{1, 1, 0}, {2, 1, 1}, {9, 1, 8},
		{1, 3, 0}, {3, 3, 0}, {4, 3, 1}, {6, 3, 1}, {7, 3, 2},
		{1, top, 0}, {top, top, 0}, {top, 1, top - 1}, {math.MaxInt, 1, math.MaxInt - 1},
		{0, 3, 0}, {-8, 3, 0}, {5, 0, 0}, {5, -1, 0}, {0, 0, 0}, {math.MinInt, 1, 0}, {math.MinInt, -1, 0},
	} {
		if got := light.Epoch(x.height, x.epoch); got != x.want {
			t.Errorf("L1: Epoch(%d, %d) is %d, not %d", x.height, x.epoch, got, x.want)
		}
	}
}

func TestAccept(t *testing.T) {
	got, e := light.Accept(believed(), shown(5))
	want := api.View{Chain: 1, Width: 8, Epoch: 3, Height: 5, State: 24, Seats: seats(2, 4, 7, 1)}
	if e != api.OK || !sameView(got, want) {
		t.Errorf("L2: Accept is %v %d, not %v", got, e, want)
	}
	got, e = light.Accept(believed(), shown(6))
	want.Height = 6
	if e != api.OK || !sameView(got, want) {
		t.Errorf("L2: Accept of a height that is not the next is %v %d, not %v", got, e, want)
	}
}

func TestAcceptedViews(t *testing.T) {
	for _, x := range []struct {
		what string
		v    api.View
		want api.Errno
	}{
		{"as it is", believed(), api.OK},
		{"no width", viewBut(func(v *api.View) { v.Width = 0 }), api.ErrForm},
		{"too wide", viewBut(func(v *api.View) { v.Width = 9 }), api.ErrForm},
		{"no epoch", viewBut(func(v *api.View) { v.Epoch = 0 }), api.ErrForm},
		{"a limit is told as the form", viewBut(func(v *api.View) { v.Height = -1 }), api.ErrForm},
		{"likewise above all", viewBut(func(v *api.View) { v.Chain = top + 1 }), api.ErrForm},
		{"too many seats", viewBut(func(v *api.View) { v.Seats = seats(1, 1, 2, 1, 3, 1, 4, 1, 5, 1, 6, 1, 7, 1, 8, 1) }), api.ErrForm},
		{"no seats", viewBut(func(v *api.View) { v.Seats = nil }), api.ErrForm},
		{"seats that fall", viewBut(func(v *api.View) { v.Seats = seats(3, 3, 1, 5) }), api.ErrForm},
		{"a seat of no weight", viewBut(func(v *api.View) { v.Seats = seats(1, 5, 3, 0) }), api.ErrForm},
		{"another chain", viewBut(func(v *api.View) { v.Chain = 2 }), api.ErrParent},
		{"of this height", viewBut(func(v *api.View) { v.Height = 5 }), api.ErrHeight},
		{"of a height beyond", viewBut(func(v *api.View) { v.Height = 6 }), api.ErrHeight},
		{"of a height beyond the epoch", viewBut(func(v *api.View) { v.Height = 7 }), api.ErrHeight},
		{"the last of the epoch ahead", viewBut(func(v *api.View) { v.Height = 3 }), api.OK},
		{"of the epoch ahead", viewBut(func(v *api.View) { v.Height = 2 }), api.ErrFar},
		{"of the beginning", viewBut(func(v *api.View) { v.Height = 0 }), api.ErrFar},
		{"of the beginning, in long epochs", viewBut(func(v *api.View) { v.Height, v.Epoch = 0, 5 }), api.OK},
		{"just not in so long ones", viewBut(func(v *api.View) { v.Height, v.Epoch = 0, 4 }), api.ErrFar},
		{"another width", viewBut(func(v *api.View) { v.Width = 7 }), api.ErrRoot},
		{"one who votes has no seat", viewBut(func(v *api.View) { v.Seats = seats(1, 5, 2, 1) }), api.ErrSeat},
		{"two thirds do not do", viewBut(func(v *api.View) { v.Seats = seats(1, 5, 2, 4, 3, 3) }), api.ErrWeight},
		{"more do", viewBut(func(v *api.View) { v.Seats = seats(1, 5, 2, 3, 3, 3) }), api.OK},
		{"whatever its state", viewBut(func(v *api.View) { v.State = 0 }), api.OK},
	} {
		got, e := light.Accept(x.v, shown(5))
		if e != x.want {
			t.Errorf("L2: Accept, the view %s: %d, not %d", x.what, e, x.want)
		}
		if e != api.OK && !sameView(got, api.View{}) {
			t.Errorf("P1: Accept, the view %s: with an error it is %v", x.what, got)
		}
	}
}

func TestAcceptedSights(t *testing.T) {
	for _, x := range []struct {
		what string
		s    api.Sight
		want api.Errno
	}{
		{"as it is", shown(5), api.OK},
		{"nothing", api.Sight{}, api.ErrForm},
		{"a header with a number below 0", but(func(s *api.Sight) { s.Header.Proposer = -1 }), api.ErrLimit},
		{"a header of another chain, above all", but(func(s *api.Sight) { s.Header.Chain = top + 1 }), api.ErrLimit},
		{"a cert of the stage Moves", but(func(s *api.Sight) { s.Cert.Stage = api.Moves }), api.ErrForm},
		{"a cert's form ahead of the bench's limit", but(func(s *api.Sight) { s.Cert.Stage, s.Seats = 5, seats(top+1, 1) }), api.ErrForm},
		{"the header's limit ahead of the cert's form", but(func(s *api.Sight) { s.Cert.Stage, s.Header.Height = 5, -1 }), api.ErrLimit},
		{"a cert's limit", but(func(s *api.Sight) { s.Cert.Round = -1 }), api.ErrLimit},
		{"a cert's limit ahead of the bench's form", but(func(s *api.Sight) { s.Cert.Round, s.Seats = -1, seats(2, 0) }), api.ErrLimit},
		{"too many seats", but(func(s *api.Sight) { s.Seats = seats(1, 1, 2, 1, 3, 1, 4, 1, 5, 1, 6, 1, 7, 1, 8, 1) }), api.ErrLimit},
		{"seats that fall", but(func(s *api.Sight) { s.Seats = seats(7, 1, 2, 4) }), api.ErrForm},
		{"no seats", but(func(s *api.Sight) { s.Seats, s.Header.Bench = nil, bench.Digest(8, nil) }), api.ErrForm},
		{"no seats, ahead of the chain", but(func(s *api.Sight) { s.Seats, s.Header.Chain = nil, 2 }), api.ErrForm},
		{"another chain", but(func(s *api.Sight) { s.Header.Chain = 2 }), api.ErrParent},
		{"another chain, ahead of the height", but(func(s *api.Sight) { s.Header.Chain, s.Header.Height = 2, 4 }), api.ErrParent},
		{"this height", shown(4), api.ErrHeight},
		{"a height ahead", shown(1), api.ErrHeight},
		{"the height 0", shown(0), api.ErrHeight},
		{"the last of this epoch", shown(6), api.OK},
		{"the first of the next", shown(7), api.ErrFar},
		{"another epoch, ahead of the cert", but(func(s *api.Sight) { s.Header.Height = 7 }), api.ErrFar},
		{"a cert of another height", but(func(s *api.Sight) { s.Cert.Height = 6 }), api.ErrRoot},
		{"a cert of the stage First", but(func(s *api.Sight) { s.Cert.Stage = api.First }), api.ErrRoot},
		{"a cert for none", spoilt(func(s *api.Sight) { s.Cert.Has, s.Cert.Block = false, 0 }), api.ErrRoot},
		{"a cert for another block", spoilt(func(s *api.Sight) { s.Cert.Block++ }), api.ErrRoot},
		{"another state", spoilt(func(s *api.Sight) { s.Header.State++ }), api.ErrRoot},
		{"another block, ahead of the seats", spoilt(func(s *api.Sight) { s.Cert.Block, s.Cert.Froms = 1, []int{9} }), api.ErrRoot},
		{"of any round", but(func(s *api.Sight) { s.Cert.Round = top }), api.OK},
		{"one without a seat", but(func(s *api.Sight) { s.Cert.Froms = []int{1, 3, 4} }), api.ErrSeat},
		{"just two thirds", but(func(s *api.Sight) { s.Cert.Froms = []int{1, 2} }), api.ErrWeight},
		{"the seats of the sight decide nothing", but(func(s *api.Sight) { s.Cert.Froms = []int{2} }), api.ErrWeight},
		{"another bench", but(func(s *api.Sight) { s.Header.Bench++ }), api.ErrRoot},
		{"other seats", spoilt(func(s *api.Sight) { s.Seats = seats(2, 4, 7, 2) }), api.ErrRoot},
		{"the weight ahead of the bench", but(func(s *api.Sight) { s.Cert.Froms, s.Header.Bench = nil, 1 }), api.ErrWeight},
		{"the same seats again", but(func(s *api.Sight) {
			s.Seats = believed().Seats
			s.Header.Bench = bench.Digest(8, s.Seats)
		}), api.OK},
	} {
		got, e := light.Accept(believed(), x.s)
		if e != x.want {
			t.Errorf("L2: Accept, the sight %s: %d, not %d", x.what, e, x.want)
		}
		if e != api.OK && !sameView(got, api.View{}) {
			t.Errorf("P1: Accept, the sight %s: with an error it is %v", x.what, got)
		}
	}
}

// TestWidths: names and digests are as wide as the view says.
func TestWidths(t *testing.T) {
	for w := 1; w <= 8; w++ {
		v := viewBut(func(v *api.View) { v.Width = w })
		s := shown(5)
		s.Header.Bench = bench.Digest(w, s.Seats)
		s.Cert.Block = light.Name(w, s.Header)
		if got, e := light.Accept(v, s); e != api.OK || got.Width != w {
			t.Errorf("L2: Accept, with digests of %d bytes: %v %d", w, got, e)
		}
		wide := s
		wide.Header.Bench = bench.Digest(8, s.Seats)
		wide.Cert.Block = light.Name(w, wide.Header)
		if _, e := light.Accept(v, wide); w < 8 && e != api.ErrRoot {
			t.Errorf("L2: Accept, with a bench of 8 bytes in the place of %d: %d", w, e)
		}
	}
}

// TestNoneIsNoBlock: a cert for none is no decision, though the header's name be 0, as that of none is.
func TestNoneIsNoBlock(t *testing.T) {
	v := viewBut(func(v *api.View) { v.Width = 1 })
	s := shown(5)
	s.Header.Bench = bench.Digest(1, s.Seats)
	for light.Name(1, s.Header) != 0 {
		s.Header.State++
	}
	s.Cert.Block = 0
	if _, e := light.Accept(v, s); e != api.OK {
		t.Errorf("L2: Accept of a header whose name is 0: %d", e)
	}
	s.Cert.Has = false
	if _, e := light.Accept(v, s); e != api.ErrRoot {
		t.Errorf("L2: Accept of a header whose name is 0, with a cert for none: %d", e)
	}
}

func TestLastHeight(t *testing.T) {
	v := viewBut(func(v *api.View) { v.Height, v.Epoch = top-1, top })
	if got, e := light.Accept(v, shown(top)); e != api.OK || got.Height != top {
		t.Errorf("L2: Accept of the greatest height: %v %d", got, e)
	}
	v.Height = top
	if _, e := light.Accept(v, shown(top)); e != api.ErrHeight {
		t.Errorf("L2: Accept behind the greatest height: %d", e)
	}
}
