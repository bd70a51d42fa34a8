// Package reckon: what an operator makes of two numbers. Those who run code and
// those who tidy it lean on it alike, so that they can't come to unlike results.
package reckon

import (
	"assize/api"
)

// Two is what an operator of two makes of numbers; false, where it fails, and
// where the instruction is no such operator.
func Two(op, lower, upper int) (int, bool) {
	switch op {
	case api.Plus:
		return number(lower + upper)
	case api.Minus:
		return number(lower - upper)
	case api.Times:
		return product(lower, upper)
	case api.Same:
		return Truth(lower == upper), true
	case api.Under:
		return Truth(lower < upper), true
	case api.Above:
		return Truth(lower > upper), true
	case api.Over, api.Rest:
		return shared(op, lower, upper)
	}
	return 0, false
}

// Truth is 1 for what is so, 0 else.
func Truth(is bool) int {
	if is {
		return 1
	}
	return 0
}

func number(n int) (int, bool) {
	if n < 0 || n > api.MaxNumber {
		return 0, false
	}
	return n, true
}

func product(lower, upper int) (int, bool) {
	// The product itself may be too great for an int.
	if lower != 0 && upper > api.MaxNumber/lower {
		return 0, false
	}
	return lower * upper, true
}

func shared(op, lower, upper int) (int, bool) {
	if upper == 0 {
		return 0, false
	}
	if op == api.Over {
		return lower / upper, true
	}
	return lower % upper, true
}
