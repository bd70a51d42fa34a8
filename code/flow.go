package code

import (
	"assize/api"
)

const unseen = -1

// A walk goes each way through a body once: where a second way comes by, the
// height that the first one had says all.
type walk struct {
	code    api.Code
	body    []api.Instr
	heights []int // at each instruction
	open    []int // instructions that were seen, and not yet gone on from
}

// pieceFlows: of a piece that is formed: does each way through it keep the stack as it must be?
func pieceFlows(c api.Code, p api.Piece) bool {
	w := &walk{code: c, body: p.Body, heights: make([]int, len(p.Body))}
	for i := range w.heights {
		w.heights[i] = unseen
	}
	if !w.come(0, 0) {
		return false
	}
	for len(w.open) > 0 {
		at := w.open[len(w.open)-1]
		w.open = w.open[:len(w.open)-1]
		if !w.leave(at) {
			return false
		}
	}
	return true
}

// come: may a way lead to an instruction with this height?
func (w *walk) come(at, height int) bool {
	if at >= len(w.body) || height > api.MaxStack {
		return false
	}
	if w.heights[at] != unseen {
		return w.heights[at] == height
	}
	w.heights[at] = height
	w.open = append(w.open, at)
	return true
}

// leave: may all ways be gone that lead on from an instruction?
func (w *walk) leave(at int) bool {
	i := w.body[at]
	height := w.heights[at] - takes(w.code, i)
	if height < 0 {
		return false
	}
	height += leaves(i)
	switch i.Op {
	case api.Back:
		return height == 0 // it took the one that was there
	case api.Jump:
		return w.come(i.A, height)
	case api.Zero:
		return w.come(at+1, height) && w.come(i.A, height)
	}
	return w.come(at+1, height)
}
