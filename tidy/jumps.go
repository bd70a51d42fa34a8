package tidy

import (
	"slices"

	"assize/api"
)

func isJump(i api.Instr) bool { return i.Op == api.Jump || i.Op == api.Zero }

// straightened: each jump leads where the Jumps behind it end. Those that go
// round for ever end nowhere: each of them leads to itself, and so to no other.
func straightened(body []api.Instr) []api.Instr {
	l := slices.Clone(body)
	for at, i := range body {
		if !isJump(i) {
			continue
		}
		to, ends := endOf(body, i.A)
		switch {
		case ends:
			l[at].A = to
		case i.Op == api.Jump:
			l[at].A = at
		}
	}
	return l
}

// endOf is the first place, from one on along Jumps, that has none; false, if
// they go round for ever.
func endOf(body []api.Instr, at int) (int, bool) {
	for range body {
		i := body[at]
		if i.Op != api.Jump {
			return at, true
		}
		if i.A == at {
			// The walk below would find that too, but only at its very end.
			return 0, false
		}
		at = i.A
	}
	return 0, false
}

// reached: the instructions to which a way leads.
func reached(body []api.Instr) []api.Instr {
	led := waysThrough(body)
	var l []api.Instr
	places := make([]int, len(body))
	for at, i := range body {
		places[at] = len(l)
		if led[at] {
			l = append(l, i)
		}
	}
	move(l, places)
	return l
}

// waysThrough: to which instructions does a way lead?
func waysThrough(body []api.Instr) []bool {
	led := make([]bool, len(body))
	open := []int{0}
	for len(open) > 0 {
		at := open[len(open)-1]
		open = open[:len(open)-1]
		if led[at] {
			continue
		}
		led[at] = true
		if i := body[at]; isJump(i) {
			open = append(open, i.A)
		}
		if goesOn(body[at]) {
			open = append(open, at+1)
		}
	}
	return led
}

// goesOn: may the next instruction be the one behind it?
func goesOn(i api.Instr) bool { return i.Op != api.Jump && i.Op != api.Back }

// move: the jumps lead where the instructions stand now that stood at their A.
func move(body []api.Instr, places []int) {
	for at, i := range body {
		if isJump(i) {
			body[at].A = places[i.A]
		}
	}
}

// jumpedTo: to which instructions does a jump lead?
func jumpedTo(body []api.Instr) []bool {
	led := make([]bool, len(body))
	for _, i := range body {
		if isJump(i) {
			led[i.A] = true
		}
	}
	return led
}
