package reckon_test

import (
	"math/big"
	"testing"

	"assize/api"
	"assize/reckon"
)

var numbers = []int{0, 1, 2, 3, 7, 1000, 1 << 20, 1<<20 - 1, 1<<20 + 1, 1 << 39, api.MaxNumber / 2, api.MaxNumber/2 + 1, api.MaxNumber - 1, api.MaxNumber}

// told: M3, by numbers that are as great as they like.
func told(op int, lower, upper int) (int, bool) {
	p, q, r := big.NewInt(int64(lower)), big.NewInt(int64(upper)), new(big.Int)
	switch op {
	case api.Plus:
		r.Add(p, q)
	case api.Minus:
		r.Sub(p, q)
	case api.Times:
		r.Mul(p, q)
	case api.Over, api.Rest:
		if upper == 0 {
			return 0, false
		}
		rest := new(big.Int)
		r.QuoRem(p, q, rest)
		if op == api.Rest {
			r = rest
		}
	case api.Same, api.Under, api.Above:
		if p.Cmp(q) == map[int]int{api.Same: 0, api.Under: -1, api.Above: 1}[op] {
			r.SetInt64(1)
		}
	default:
		return 0, false
	}
	if r.Sign() < 0 || r.BitLen() > 40 {
		return 0, false
	}
	return int(r.Int64()), true
}

func TestTwo(t *testing.T) {
	for op := -1; op < 40; op++ {
		for _, lower := range numbers {
			for _, upper := range numbers {
				n, may := reckon.Two(op, lower, upper)
				want, wanted := told(op, lower, upper)
				if n != want || may != wanted {
					t.Errorf("M3: instruction %d of %d and %d: %d, %v, not %d, %v", op, lower, upper, n, may, want, wanted)
				}
			}
		}
	}
}

// P1: whatever the numbers are, it answers.
func TestAnyNumbers(t *testing.T) {
	edges := []int{-1 << 63, -1, 0, 1, 1 << 40, 1<<63 - 1}
	for op := range 40 {
		for _, lower := range edges {
			for _, upper := range edges {
				reckon.Two(op, lower, upper)
			}
		}
	}
}

func TestTruth(t *testing.T) {
	if reckon.Truth(true) != 1 || reckon.Truth(false) != 0 {
		t.Error("M3: what is so is 1, else 0")
	}
}
