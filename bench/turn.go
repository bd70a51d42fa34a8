package bench

import (
	"assize/api"
)

// lastTurn: beyond it nobody leads.
const lastTurn = 65535

// Turn says who leads in the turn t.
func Turn(l []api.Seat, t int) int {
	if !Fits(l) || t < 0 || t > lastTurn {
		return 0
	}
	gains := make([]int, len(l))
	total := Total(l)
	leader := 0
	for range t + 1 {
		leader = gainAll(l, gains)
		gains[leader] -= total
	}
	return l[leader].Who
}

// gainAll adds the weights to the gains, and tells at which place the greatest one is, of several the first.
func gainAll(l []api.Seat, gains []int) int {
	first := 0
	for i, s := range l {
		gains[i] += s.Weight
		if gains[i] > gains[first] {
			first = i
		}
	}
	return first
}
