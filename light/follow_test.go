package light_test

import (
	"math/rand"
	"slices"
	"testing"

	"assize/api"
	"assize/bench"
	"assize/light"
)

// decided is a sight of a height, decided by froms, behind which next votes.
func decided(height int, next []api.Seat, froms ...int) api.Sight {
	s := api.Sight{Seats: next}
	s.Header = api.Header{Chain: 1, Height: height, State: api.Digest(100 + height), Bench: bench.Digest(8, next)}
	s.Cert = api.Cert{Height: height, Stage: api.Second, Has: true, Froms: froms}
	return named(s)
}

func TestFollow(t *testing.T) {
	early, late := seats(1, 1, 2, 1, 3, 1), seats(4, 1, 5, 1, 6, 1)
	begin := api.View{Chain: 1, Width: 8, Epoch: 2, Seats: early}
	at := func(height int, l []api.Seat) api.View {
		return api.View{Chain: 1, Width: 8, Epoch: 2, Height: height, State: api.Digest(100 + height), Seats: l}
	}
	for _, x := range []struct {
		what    string
		v       api.View
		l       []api.Sight
		want    api.View
		answers []api.Errno
	}{
		{"nothing", begin, nil, begin, nil},
		{"one", begin, []api.Sight{decided(1, early, 1, 2, 3)}, at(1, early), []api.Errno{api.OK}},
		{"the bench changes", begin, []api.Sight{decided(2, late, 1, 2, 3), decided(3, late, 4, 5, 6)}, at(3, late), []api.Errno{api.OK, api.OK}},
		{"what was believed is believed no more", begin, []api.Sight{decided(2, late, 1, 2, 3), decided(3, early, 1, 2, 3)}, at(2, late), []api.Errno{api.OK, api.ErrSeat}},
		{"one is left out", begin, []api.Sight{decided(1, early, 1, 2), decided(2, late, 1, 2, 3)}, at(2, late), []api.Errno{api.ErrWeight, api.OK}},
		{"a height twice", begin, []api.Sight{decided(1, early, 1, 2, 3), decided(1, early, 1, 2, 3), decided(2, early, 1, 2, 3)}, at(2, early), []api.Errno{api.OK, api.ErrHeight, api.OK}},
		{"an epoch is not seen", begin, []api.Sight{decided(3, early, 1, 2, 3), decided(1, early, 1, 2, 3), decided(3, early, 1, 2, 3)}, at(1, early), []api.Errno{api.ErrFar, api.OK, api.ErrFar}},
		{"the last is left out", begin, []api.Sight{decided(1, early, 1, 2, 3), {}}, at(1, early), []api.Errno{api.OK, api.ErrForm}},
		{"a view that may not be", api.View{Chain: 1, Height: 7}, []api.Sight{decided(8, early, 1, 2, 3)}, api.View{Chain: 1, Height: 7}, []api.Errno{api.ErrForm}},
	} {
		got, answers := light.Follow(x.v, x.l)
		if !sameView(got, x.want) || !slices.Equal(answers, x.answers) {
			t.Errorf("L3: Follow, %s: %v %v, not %v %v", x.what, got, answers, x.want, x.answers)
		}
	}
}

// TestFollowAsToldAnew: Follow is Accept, one behind the other.
func TestFollowAsToldAnew(t *testing.T) {
	r := rand.New(rand.NewSource(31))
	taken := 0
	for range 500 {
		v := api.View{Chain: 1, Width: 8, Epoch: 1 + r.Intn(3), Seats: seats(1, 1+r.Intn(3), 2, 1, 3, 1)}
		var l []api.Sight
		height := 0
		for range r.Intn(9) {
			height += r.Intn(3)
			froms := [][]int{{1, 2, 3}, {1, 2}, {2, 3}, {1, 2, 3}}[r.Intn(4)]
			l = append(l, decided(height, seats(1, 1+r.Intn(3), 2, 1+r.Intn(2), 3, 1), froms...))
		}
		want := v
		var answers []api.Errno
		for _, s := range l {
			x, e := light.Accept(want, s)
			if e == api.OK {
				want = x
				taken++
			}
			answers = append(answers, e)
		}
		got, told := light.Follow(v, l)
		if !sameView(got, want) || !slices.Equal(told, answers) {
			t.Fatalf("L3: Follow(%v, %v) is %v %v, not %v %v", v, l, got, told, want, answers)
		}
	}
	if taken < 200 {
		t.Fatalf("only %d of what was drawn were accepted", taken)
	}
}

func TestWhatIsHandedInStays(t *testing.T) {
	v, s := believed(), shown(5)
	got, _ := light.Accept(v, s)
	got.Seats[0].Weight = 77
	if !sameView(v, believed()) || !slices.Equal(s.Seats, shown(5).Seats) {
		t.Errorf("P2: what Accept answers stands in what was handed in")
	}
	for _, l := range [][]api.Sight{nil, {s}, {{}, {}}} {
		got, _ := light.Follow(v, l)
		got.Seats[0].Weight = 78
		if !sameView(v, believed()) || !slices.Equal(s.Seats, shown(5).Seats) {
			t.Errorf("P2: what Follow answers, of %d sights, stands in what was handed in", len(l))
		}
	}
}
