package bench_test

import (
	"math"
	"slices"
	"testing"

	"assize/api"
	"assize/bench"
	"assize/digest"
	"assize/wire"
)

const top = api.MaxNumber

// seats makes a list of who, weight, who, weight and so on.
func seats(l ...int) []api.Seat {
	var out []api.Seat
	for i := 0; i+1 < len(l); i += 2 {
		out = append(out, api.Seat{Who: l[i], Weight: l[i+1]})
	}
	return out
}

func TestChoose(t *testing.T) {
	for _, x := range []struct {
		what     string
		in, want []api.Seat
	}{
		{"none", nil, nil},
		{"one", seats(3, 4), seats(3, 4)},
		{"by Who, not by weight", seats(9, 1, 2, 5, 4, 3), seats(2, 5, 4, 3, 9, 1)},
		{"the first of one Who", seats(2, 1, 2, 9, 3, 4), seats(2, 1, 3, 4)},
		{"the first of one Who, not beside it", seats(2, 1, 3, 4, 2, 9), seats(2, 1, 3, 4)},
		{"the first one weighs nothing", seats(2, 0, 2, 9, 3, 4), seats(3, 4)},
		{"the first one weighs less than nothing", seats(2, -1, 2, 9), nil},
		{"the first one weighs too much", seats(2, top+1, 2, 9, 2, 8), nil},
		{"the edges", seats(0, 1, 1, 1, top, top, top+1, 1, -1, 1), seats(1, 1, top, top)},
		{"the edges of weights", seats(1, 0, 2, 1, 3, top, 4, top+1, 5, -1), seats(2, 1, 3, top)},
		{"numbers of all sizes", seats(math.MinInt, 1, math.MaxInt, 1, 1, math.MaxInt, 2, math.MinInt, 3, 3), seats(3, 3)},
		{"seven", seats(1, 1, 2, 1, 3, 1, 4, 1, 5, 1, 6, 1, 7, 1), seats(1, 1, 2, 1, 3, 1, 4, 1, 5, 1, 6, 1, 7, 1)},
		{"the lightest of eight goes", seats(1, 2, 2, 2, 3, 1, 4, 2, 5, 2, 6, 2, 7, 2, 8, 2), seats(1, 2, 2, 2, 4, 2, 5, 2, 6, 2, 7, 2, 8, 2)},
		{"of those that weigh the same the greatest Who goes", seats(8, 1, 7, 1, 6, 1, 5, 1, 4, 1, 3, 1, 2, 1, 1, 1), seats(1, 1, 2, 1, 3, 1, 4, 1, 5, 1, 6, 1, 7, 1)},
		{"likewise when it comes last", seats(1, 1, 2, 1, 3, 1, 4, 1, 5, 1, 6, 1, 7, 1, 8, 1), seats(1, 1, 2, 1, 3, 1, 4, 1, 5, 1, 6, 1, 7, 1)},
		{"those that may not be take no room", seats(1, 0, 2, 0, 3, 9, 4, 9, 5, 9, 6, 9, 7, 9, 8, 9, 9, 9), seats(3, 9, 4, 9, 5, 9, 6, 9, 7, 9, 8, 9, 9, 9)},
	} {
		if got := bench.Choose(x.in); !slices.Equal(got, x.want) {
			t.Errorf("B1: Choose, %s: of %v it is %v, not %v", x.what, x.in, got, x.want)
		}
	}
}

func TestFits(t *testing.T) {
	seven := seats(1, 1, 2, 1, 3, 1, 4, 1, 5, 1, 6, 1, 7, 1)
	for _, x := range []struct {
		in   []api.Seat
		want bool
	}{
		{nil, false},
		{[]api.Seat{}, false},
		{seats(1, 1), true},
		{seats(top, top), true},
		{seats(top+1, 1), false},
		{seats(1, top+1), false},
		{seats(0, 1), false},
		{seats(1, 0), false},
		{seats(-1, 1), false},
		{seats(1, -1), false},
		{seats(1, 1, 2, 1), true},
		{seats(2, 1, 1, 1), false},
		{seats(2, 1, 2, 1), false},
		{seats(1, 1, 3, 1, 2, 1), false},
		{seats(1, 1, 2, 0, 3, 1), false},
		{seven, true},
		{append(slices.Clone(seven), seats(8, 1)...), false},
	} {
		if got := bench.Fits(x.in); got != x.want {
			t.Errorf("B1: Fits(%v) is %t", x.in, got)
		}
	}
}

func TestWeights(t *testing.T) {
	l := seats(1, 5, 2, 1, 3, 3)
	heavy := seats(1, top, 2, top, 3, top, 4, top, 5, top, 6, top, 7, top)
	twice := seats(4, 2, 4, 3, 1, 1)
	for _, x := range []struct {
		l            []api.Seat
		named        []int
		total, sum   int
		quorum, some bool
	}{
		{nil, nil, 0, 0, false, false},
		{nil, []int{1}, 0, 0, false, false},
		{l, nil, 9, 0, false, false},
		{l, []int{0, 4, -1, top + 1}, 9, 0, false, false},
		{l, []int{3}, 9, 3, false, false},
		{l, []int{3, 2}, 9, 4, false, true},
		{l, []int{1, 2}, 9, 6, false, true},
		{l, []int{2, 1, 2, 1}, 9, 6, false, true},
		{l, []int{3, 1}, 9, 8, true, true},
		{l, []int{1, 2, 3}, 9, 9, true, true},
		{heavy, []int{1, 2}, 7 * top, 2 * top, false, false},
		{heavy, []int{1, 2, 3}, 7 * top, 3 * top, false, true},
		{heavy, []int{1, 2, 3, 4}, 7 * top, 4 * top, false, true},
		{heavy, []int{1, 2, 3, 4, 5}, 7 * top, 5 * top, true, true},
		{twice, []int{4}, 6, 5, true, true},
		{twice, []int{1}, 6, 1, false, false},
		{seats(0, 4, -3, 2), []int{-3}, 6, 2, false, false},
		{seats(0, 4, -3, 3), []int{-3}, 7, 3, false, true},
		{seats(0, 4, 2, 0), []int{0}, 4, 4, true, true},
		{seats(1, -4, 2, 2), []int{2}, -2, 2, true, true},
	} {
		if got := bench.Total(x.l); got != x.total {
			t.Errorf("B2: Total(%v) is %d, not %d", x.l, got, x.total)
		}
		if got := bench.Weight(x.l, x.named); got != x.sum {
			t.Errorf("B2: Weight(%v, %v) is %d, not %d", x.l, x.named, got, x.sum)
		}
		if got := bench.Quorum(x.l, x.named); got != x.quorum {
			t.Errorf("B2: Quorum(%v, %v) is %t", x.l, x.named, got)
		}
		if got := bench.Some(x.l, x.named); got != x.some {
			t.Errorf("B2: Some(%v, %v) is %t", x.l, x.named, got)
		}
	}
}

func TestHas(t *testing.T) {
	l := seats(2, 1, 5, 0, -3, 4)
	for _, x := range []struct {
		who  int
		want bool
	}{{2, true}, {5, true}, {-3, true}, {1, false}, {0, false}, {4, false}, {6, false}, {top, false}} {
		if got := bench.Has(l, x.who); got != x.want {
			t.Errorf("B2: Has(%v, %d) is %t", l, x.who, got)
		}
	}
	if bench.Has(nil, 0) {
		t.Errorf("B2: nobody has a seat in an empty list")
	}
}

func TestTurns(t *testing.T) {
	for _, x := range []struct {
		l    []api.Seat
		want []int
	}{
		{seats(1, 5, 2, 1, 3, 1), []int{1, 1, 2, 1, 3, 1, 1, 1, 1, 2}},
		{seats(4, 1), []int{4, 4, 4}},
		{seats(4, top), []int{4, 4, 4}},
		{seats(2, 3, 9, 3), []int{2, 9, 2, 9, 2}},
		{seats(2, 1, 9, 2), []int{9, 2, 9, 9, 2, 9}},
		{seats(1, top-1, 2, top), []int{2, 1, 2, 1}},
	} {
		for turn, want := range x.want {
			if got := bench.Turn(x.l, turn); got != want {
				t.Errorf("B3: Turn(%v, %d) is %d, not %d", x.l, turn, got, want)
			}
		}
	}
}

func TestTurnsThatAreNone(t *testing.T) {
	l := seats(1, 5, 2, 1)
	for _, x := range []struct {
		l    []api.Seat
		turn int
		want int
	}{
		{l, -1, 0}, {l, math.MinInt, 0}, {l, 65536, 0}, {l, math.MaxInt, 0},
		{l, 0, 1}, {l, 65535, 2}, {seats(7, 1, 8, 1), 65535, 8}, {seats(7, 1, 8, 1), 65534, 7},
		{nil, 0, 0}, {seats(2, 1, 1, 5), 0, 0}, {seats(1, 0), 0, 0}, {seats(0, 1), 0, 0}, {seats(1, top+1), 0, 0},
		{seats(1, 1, 2, 1, 3, 1, 4, 1, 5, 1, 6, 1, 7, 1, 8, 1), 0, 0},
	} {
		if got := bench.Turn(x.l, x.turn); got != x.want {
			t.Errorf("B3: Turn(%v, %d) is %d, not %d", x.l, x.turn, got, x.want)
		}
	}
}

func TestDigest(t *testing.T) {
	for _, l := range [][]api.Seat{nil, seats(1, 1), seats(1, 5, 2, 1, 3, 1), seats(1, top, top, 1)} {
		s, e := wire.PutBench(l)
		if e != api.OK {
			t.Fatalf("PutBench(%v): %d", l, e)
		}
		for _, w := range []int{-1, 0, 1, 3, 8, 9} {
			want := digest.OfImage(w, api.Image{Tag: api.TagBench, Parts: []string{s}})
			if got := bench.Digest(w, l); got != want {
				t.Errorf("B4: Digest(%d, %v) is %x, not %x", w, l, got, want)
			}
		}
	}
	if bench.Digest(8, seats(1, 1)) == bench.Digest(8, seats(1, 2)) || bench.Digest(8, nil) == bench.Digest(8, seats(1, 1)) {
		t.Errorf("B4: unlike benches have one digest")
	}
}

func TestDigestOfWhatIsRefused(t *testing.T) {
	none := digest.Of(8, api.TagBench, "")
	for _, l := range [][]api.Seat{seats(2, 1, 1, 1), seats(1, 0), seats(1, -1), seats(top+1, 1), make([]api.Seat, 9)} {
		if got := bench.Digest(8, l); got != none {
			t.Errorf("B4: Digest(8, %v) is %x, not that of no bytes, %x", l, got, none)
		}
	}
}

func TestWhatIsHandedInStays(t *testing.T) {
	l := seats(9, 1, 2, 5, 4, 3, 2, 2, 8, 1, 7, 1, 6, 1, 5, 1, 3, 9)
	named := []int{5, 2, 9}
	l1, named1 := slices.Clone(l), slices.Clone(named)
	got := bench.Choose(l)
	want := slices.Clone(got)
	again := bench.Choose(l)
	bench.Total(l)
	bench.Weight(l, named)
	bench.Quorum(l, named)
	bench.Some(l, named)
	bench.Turn(again, 9)
	bench.Digest(8, l)
	for i := range again {
		again[i] = api.Seat{}
	}
	if !slices.Equal(l, l1) || !slices.Equal(named, named1) {
		t.Errorf("P2: a list that was handed in was written into")
	}
	l[1] = api.Seat{}
	if !slices.Equal(got, want) {
		t.Errorf("P2: what Choose answers is not the caller's alone")
	}
}
