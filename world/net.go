package world

import (
	"assize/api"
	"assize/wire"
)

// Bounds: of what is on its way, and of a calm.
const (
	maxWay      = 4096
	maxCalm     = 200
	maxDelivers = 20000 // each time
)

// post puts what a node sent on its way. One that is down then is no more.
func (w *World) post(k *keeper) {
	for _, m := range k.node.Out() {
		w.hear(m)
		w.send(m)
	}
	if k.node.Down() {
		k.node = nil
	}
}

// send puts a message on its way: to one, or (To 0) to each other node.
func (w *World) send(m api.Message) {
	if m.To != 0 {
		w.put(m)
		return
	}
	for _, k := range w.keepers {
		if k.who != m.From {
			m.To = k.who
			w.put(m)
		}
	}
}

// put puts a message to one on its way, if there is room; else it is lost.
func (w *World) put(m api.Message) {
	if len(w.way) < maxWay {
		w.way = append(w.way, m)
	}
}

// number is the place of the message number n: they are counted round and round. There is one.
func (w *World) number(n int) int {
	i := n % len(w.way)
	if i < 0 {
		i += len(w.way)
	}
	return i
}

// takeOff takes a message off. Those ahead of it move up: so the first one goes without moving any.
func (w *World) takeOff(i int) api.Message {
	m := w.way[i]
	copy(w.way[1:i+1], w.way[:i])
	w.way[0] = api.Message{}
	w.way = w.way[1:]
	return m
}

// Way: how many messages are on their way.
func (w *World) Way() int { return len(w.way) }

// Peek: one of them.
func (w *World) Peek(n int) (api.Message, api.Errno) {
	if len(w.way) == 0 {
		return api.Message{}, api.ErrPlace
	}
	return fresh(w.way[w.number(n)]), api.OK
}

// fresh is a message that shares nothing with m: it is written, and read again.
func fresh(m api.Message) api.Message {
	s, _ := wire.PutMessage(m) // what is on its way may be
	x, _ := wire.GetMessage(s)
	return x
}

// Net: what happens to a message that is on its way.
func (w *World) Net(kind, n int) api.Errno {
	if len(w.way) == 0 {
		return api.ErrPlace
	}
	i := w.number(n)
	switch kind {
	case api.Deliver:
		w.deliver(i)
	case api.Drop:
		w.takeOff(i)
	case api.Double:
		w.put(w.way[i])
	default:
		return api.ErrKind
	}
	return api.OK
}

func (w *World) deliver(i int) {
	m := w.takeOff(i)
	if k, e := w.upKeeper(m.To); e == api.OK {
		k.node.Take(m)
		w.post(k)
	}
}

// Submit: somebody's transaction goes to a node.
func (w *World) Submit(who int, t api.Tx) api.Errno {
	if e := w.sign(t); e != api.OK {
		return e
	}
	k, e := w.upKeeper(who)
	if e != api.OK {
		return e
	}
	e = k.node.Submit(t)
	w.post(k)
	return e
}

// Tick: time passes for a node (0: for all).
func (w *World) Tick(who int) api.Errno {
	if who == 0 {
		for _, k := range w.keepers {
			w.tick(k)
		}
		return api.OK
	}
	k := w.keeper(who)
	if k == nil {
		return api.ErrSeat
	}
	w.tick(k)
	return api.OK
}

func (w *World) tick(k *keeper) {
	if k.isUp() {
		k.node.Tick()
		w.post(k)
	}
}

// Calm: so many times all nodes that are up tick, and all that is on its way comes.
func (w *World) Calm(n int) {
	for range min(n, maxCalm) {
		w.Tick(0)
		for i := 0; i < maxDelivers && len(w.way) > 0; i++ {
			w.deliver(0)
		}
	}
}
