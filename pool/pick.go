package pool

import (
	"container/heap"

	"assize/api"
)

// queue is what waits of a sender, its next one first.
type queue struct {
	from int
	list []waiting
}

// queues is a heap: the queue whose next one is to be chosen first is on top.
type queues []queue

func (q queues) Len() int { return len(q) }

// Less: no two are of one sender, so of two it is always one.
func (q queues) Less(i, j int) bool {
	if q[i].list[0].price != q[j].list[0].price {
		return q[i].list[0].price > q[j].list[0].price
	}
	return q[i].from < q[j].from
}

func (q queues) Swap(i, j int) { q[i], q[j] = q[j], q[i] }

func (q *queues) Push(x any) { *q = append(*q, x.(queue)) }

func (q *queues) Pop() any {
	last := len(*q) - 1
	x := (*q)[last]
	*q = (*q)[:last]
	return x
}

// Pick chooses what goes into a block: nonce tells each sender's next number.
func (p *Pool) Pick(nonce func(who int) int, gas, most int) []api.Tx {
	q := p.queues(nonce)
	var chosen []api.Tx
	for len(chosen) < most && q.Len() > 0 {
		w := (*q)[0].list[0]
		if w.limit > gas {
			heap.Pop(q)
			continue
		}
		gas -= w.limit
		chosen = append(chosen, w.read())
		q.goOn()
	}
	return chosen
}

// queues are those of all senders whose next one waits. All are asked for
// ahead of the first: so it does not matter if nonce has to do with the pool.
func (p *Pool) queues(nonce func(who int) int) *queues {
	senders := p.rising()
	next := make([]int, len(senders))
	for i, from := range senders {
		next[i] = nonce(from)
	}
	q := &queues{}
	for i, from := range senders {
		l := p.senders[from]
		if at, there := find(l, next[i]); there {
			heap.Push(q, queue{from: from, list: l[at:]})
		}
	}
	return q
}

// goOn takes the first one off the queue on top, which goes on if the number behind it waits.
func (q *queues) goOn() {
	top := &(*q)[0]
	last := top.list[0].nonce
	top.list = top.list[1:]
	if len(top.list) == 0 || top.list[0].nonce != last+1 {
		heap.Pop(q)
		return
	}
	heap.Fix(q, 0)
}
