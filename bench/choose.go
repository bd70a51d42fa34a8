package bench

import (
	"cmp"
	"container/heap"
	"slices"

	"assize/api"
)

// Choose gives seats to the heaviest.
func Choose(l []api.Seat) []api.Seat {
	kept := &heaviest{}
	met := map[int]struct{}{}
	for _, s := range l {
		_, again := met[s.Who]
		met[s.Who] = struct{}{}
		if !again && mayBe(s) {
			kept.keep(s)
		}
	}
	slices.SortFunc(*kept, func(a, b api.Seat) int { return cmp.Compare(a.Who, b.Who) })
	return *kept
}

// heaviest is a heap of the heaviest seats so far. The lightest of them is on
// top, for it is the one that gives way to a heavier one.
type heaviest []api.Seat

func (h *heaviest) keep(s api.Seat) {
	heap.Push(h, s)
	if h.Len() > api.MaxSeats {
		heap.Pop(h)
	}
}

func (h heaviest) Len() int { return len(h) }

// Less: is the seat i the one that gives way first? No two have one Who, so of two it is always one.
func (h heaviest) Less(i, j int) bool {
	if h[i].Weight != h[j].Weight {
		return h[i].Weight < h[j].Weight
	}
	return h[i].Who > h[j].Who
}

func (h heaviest) Swap(i, j int) { h[i], h[j] = h[j], h[i] }

func (h *heaviest) Push(x any) { *h = append(*h, x.(api.Seat)) }

func (h *heaviest) Pop() any {
	last := len(*h) - 1
	s := (*h)[last]
	*h = (*h)[:last]
	return s
}
