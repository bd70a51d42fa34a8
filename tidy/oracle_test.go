package tidy_test

import (
	"math/big"

	"assize/api"
)

// Here Y2 is told anew: what may be in no piece that is tidied. It looks at a
// body alone, and at each place of it by itself.

func jumps(i api.Instr) bool { return i.Op == api.Jump || i.Op == api.Zero }

// leadsTo: to which places does an instruction lead?
func leadsTo(body []api.Instr, at int) []int {
	switch i := body[at]; i.Op {
	case api.Back:
		return nil
	case api.Jump:
		return []int{i.A}
	case api.Zero:
		return []int{i.A, at + 1}
	}
	return []int{at + 1}
}

// wayTo: the places to which a way leads, by going on from all that are known, until there is no new one.
func wayTo(body []api.Instr) map[int]bool {
	known := map[int]bool{0: true}
	for {
		before := len(known)
		for at := range body {
			if known[at] {
				for _, to := range leadsTo(body, at) {
					known[to] = true
				}
			}
		}
		if len(known) == before {
			return known
		}
	}
}

// round: does the Jump at a place come back to that place by Jumps alone?
func round(body []api.Instr, at int) bool {
	to := at
	for range len(body) {
		if body[to].Op != api.Jump {
			return false
		}
		if to = body[to].A; to == at {
			return true
		}
	}
	return false
}

// isNumber: has an operator of two a result that is a number?
func isNumber(op, lower, upper int) bool {
	switch op {
	case api.Over, api.Rest:
		return upper > 0
	case api.Same, api.Under, api.Above:
		return true
	case api.Minus:
		return lower >= upper
	case api.Plus:
		return lower+upper < 1<<40
	case api.Times:
		return new(big.Int).Mul(big.NewInt(int64(lower)), big.NewInt(int64(upper))).BitLen() <= 40
	}
	return false
}

// untidy: what a body has that it should not have; nothing, if it is tidy.
func untidy(body []api.Instr) string {
	led, way := map[int]bool{}, wayTo(body)
	for _, i := range body {
		if jumps(i) {
			led[i.A] = true
		}
	}
	for at, i := range body {
		if !way[at] {
			return "an instruction to which no way leads"
		}
		if jumps(i) && body[i.A].Op == api.Jump && !round(body, i.A) {
			return "a jump to a Jump"
		}
		if i.Op == api.Jump && i.A == at+1 {
			return "a Jump to the next instruction"
		}
		if s := untidyPair(body[at:], led[at+1], led[at+2]); s != "" {
			return s
		}
	}
	return ""
}

// untidyPair: the same of what begins a body, with jumps to its second or third or not.
func untidyPair(l []api.Instr, second, third bool) string {
	if len(l) < 2 || second {
		return ""
	}
	first, op := l[0], l[1].Op
	switch {
	case op == api.Pop && (first.Op == api.Push || first.Op == api.Load || first.Op == api.Me || first.Op == api.Paid):
		return "a number and then Pop"
	case first.Op != api.Push:
		return ""
	case op == api.Flip:
		return "Push and then Flip"
	case op == api.Zero:
		return "Push and then Zero"
	case op == api.Push && len(l) > 2 && !third && isNumber(l[2].Op, first.A, l[1].A):
		return "two numbers and an operator"
	}
	return ""
}
