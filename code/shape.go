package code

import (
	"assize/api"
)

// What the A of an instruction is.
const (
	nothing = iota
	number
	local
	place
	piece
	variable
	arguments // how many there are; they stand with a B, a name
)

// shape: how many numbers an instruction takes and leaves, and what its A is.
// Of what hangs on its A (Enter, Reach) takes is what it takes beside that.
type shape struct {
	takes, leaves, a int
}

var shapes = [...]shape{
	api.Push: {0, 1, number}, api.Pop: {1, 0, nothing}, api.Load: {0, 1, local}, api.Store: {1, 0, local},
	api.Plus: {2, 1, nothing}, api.Minus: {2, 1, nothing}, api.Times: {2, 1, nothing}, api.Over: {2, 1, nothing}, api.Rest: {2, 1, nothing},
	api.Same: {2, 1, nothing}, api.Under: {2, 1, nothing}, api.Above: {2, 1, nothing}, api.Flip: {1, 1, nothing},
	api.Jump: {0, 0, place}, api.Zero: {1, 0, place}, api.Enter: {0, 1, piece}, api.Back: {1, 0, nothing},
	api.Read: {0, 1, variable}, api.Write: {1, 0, variable}, api.Seek: {1, 1, variable}, api.Stow: {2, 0, variable},
	api.Me: {0, 1, nothing}, api.From: {0, 1, nothing}, api.Paid: {0, 1, nothing}, api.High: {0, 1, nothing},
	api.Purse: {1, 1, nothing}, api.Hand: {2, 0, nothing}, api.Say: {1, 0, nothing}, api.Must: {1, 0, nothing},
	api.Reach: {3, 2, arguments},
}

func isInstr(op int) bool { return op >= api.Push && op <= api.Reach }

func formedInstr(c api.Code, p api.Piece, i api.Instr) bool {
	if !isInstr(i.Op) {
		return false
	}
	a := shapes[i.Op].a
	return i.A >= 0 && i.A < endOfA(c, p, a) && i.B >= 0 && i.B < endOfB(c, a)
}

// endOfA is the number behind the greatest A that may be.
func endOfA(c api.Code, p api.Piece, a int) int {
	switch a {
	case number:
		return api.MaxNumber + 1
	case local:
		return p.Locals
	case place:
		return len(p.Body)
	case piece:
		return len(c.Pieces)
	case variable:
		return api.MaxVars
	case arguments:
		return api.MaxArgs + 1
	}
	return 1 // where it names nothing it is 0
}

func endOfB(c api.Code, a int) int {
	if a == arguments {
		return len(c.Names)
	}
	return 1
}

// takes is how many numbers an instruction that is formed takes.
func takes(c api.Code, i api.Instr) int {
	s := shapes[i.Op]
	switch s.a {
	case piece:
		return s.takes + c.Pieces[i.A].Params
	case arguments:
		return s.takes + i.A
	}
	return s.takes
}

func leaves(i api.Instr) int { return shapes[i.Op].leaves }
