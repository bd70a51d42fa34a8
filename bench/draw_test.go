package bench_test

import (
	"math/rand"
	"slices"
	"sort"
	"testing"

	"assize/api"
	"assize/bench"
)

// mayBe, chosen, leads: the chapter, told anew, without care for how long it takes.

func mayBe(s api.Seat) bool {
	return s.Who >= 1 && s.Who <= top && s.Weight >= 1 && s.Weight <= top
}

func chosen(l []api.Seat) []api.Seat {
	var all []api.Seat
	for i, s := range l {
		first := true
		for _, ahead := range l[:i] {
			first = first && ahead.Who != s.Who
		}
		if first && mayBe(s) {
			all = append(all, s)
		}
	}
	sort.Slice(all, func(i, j int) bool {
		if all[i].Weight == all[j].Weight {
			return all[i].Who < all[j].Who
		}
		return all[i].Weight > all[j].Weight
	})
	if len(all) > api.MaxSeats {
		all = all[:api.MaxSeats]
	}
	sort.Slice(all, func(i, j int) bool { return all[i].Who < all[j].Who })
	return all
}

// leads: who leads in each of the first n turns.
func leads(l []api.Seat, n int) []int {
	gain := map[int]int{}
	total := 0
	for _, s := range l {
		total += s.Weight
	}
	var out []int
	for range n {
		who := l[0].Who
		for _, s := range l {
			gain[s.Who] += s.Weight
		}
		for _, s := range l {
			if gain[s.Who] > gain[who] {
				who = s.Who
			}
		}
		gain[who] -= total
		out = append(out, who)
	}
	return out
}

func drawn(r *rand.Rand, many, whos, weights int) []api.Seat {
	var l []api.Seat
	for range r.Intn(many) {
		l = append(l, api.Seat{Who: r.Intn(whos), Weight: r.Intn(weights)})
	}
	return l
}

func TestChoiceAsToldAnew(t *testing.T) {
	r := rand.New(rand.NewSource(12))
	for range 6000 {
		l := drawn(r, 40, 1+r.Intn(60), 2+r.Intn(12))
		got, want := bench.Choose(l), chosen(l)
		if !slices.Equal(got, want) {
			t.Fatalf("B1: Choose(%v) is %v, not %v", l, got, want)
		}
		if bench.Fits(got) != (len(got) > 0) {
			t.Fatalf("B1: Fits(%v), which was chosen, is %t", got, len(got) == 0)
		}
	}
}

func TestLongChoice(t *testing.T) {
	r := rand.New(rand.NewSource(13))
	l := drawn(r, 2, 2, 2)
	for i := range 200000 {
		l = append(l, api.Seat{Who: 1 + i, Weight: 1 + r.Intn(1000000)})
	}
	heavy := slices.Clone(l)
	slices.SortStableFunc(heavy, func(a, b api.Seat) int { return b.Weight - a.Weight })
	got := bench.Choose(l)
	for _, s := range heavy[:api.MaxSeats] {
		if !slices.Contains(got, s) {
			t.Fatalf("B1: %v is among the heaviest, and was not chosen", s)
		}
	}
}

func TestTurnsAsToldAnew(t *testing.T) {
	r := rand.New(rand.NewSource(14))
	for range 400 {
		l := bench.Choose(drawn(r, 12, 20, 2+r.Intn(9)))
		if len(l) == 0 {
			continue
		}
		total := bench.Total(l)
		want := leads(l, 2*total)
		times := map[int]int{}
		for turn, who := range want {
			if got := bench.Turn(l, turn); got != who {
				t.Fatalf("B3: Turn(%v, %d) is %d, not %d", l, turn, got, who)
			}
			if turn < total {
				times[bench.Turn(l, turn)]++
			}
		}
		for _, s := range l {
			if times[s.Who] != s.Weight {
				t.Fatalf("B3: of %v, %d leads %d times in %d turns", l, s.Who, times[s.Who], total)
			}
		}
	}
}

func TestWeightsAsToldAnew(t *testing.T) {
	r := rand.New(rand.NewSource(15))
	for range 4000 {
		l := drawn(r, 8, 9, 6)
		var named []int
		for range r.Intn(9) {
			named = append(named, r.Intn(10)-1)
		}
		total, sum := 0, 0
		for _, s := range l {
			total += s.Weight
			is := 0
			for _, who := range named {
				if who == s.Who {
					is = s.Weight
				}
			}
			sum += is
		}
		if bench.Total(l) != total || bench.Weight(l, named) != sum {
			t.Fatalf("B2: of %v and %v, Total is %d, not %d, or Weight is %d, not %d", l, named, bench.Total(l), total, bench.Weight(l, named), sum)
		}
		if bench.Quorum(l, named) != (sum+sum+sum > total+total) || bench.Some(l, named) != (sum+sum+sum > total) {
			t.Fatalf("B2: of %v and %v, which weigh %d of %d, Quorum is %t, Some %t", l, named, sum, total, bench.Quorum(l, named), bench.Some(l, named))
		}
	}
}
