package assize

import "assize/api"

// does does a line that needs a world, and answers it.
func (s *session) does(verb string, n []int) []string {
	w := s.world
	switch verb {
	case "pay", "bond", "leave", "free":
		node, t := txOf(verb, n)
		return code(w.Submit(node, t))
	case "deliver":
		return code(w.Net(api.Deliver, n[0]))
	case "drop":
		return code(w.Net(api.Drop, n[0]))
	case "double":
		return code(w.Net(api.Double, n[0]))
	case "tick":
		return code(w.Tick(n[0]))
	case "begin":
		return code(w.Begin(n[0]))
	case "stop":
		return code(w.Stop(n[0], n[1], n[2]))
	case "calm":
		w.Calm(n[0])
		return code(api.OK)
	case "vote":
		return code(w.Lie(lieOf(n, n[5])))
	case "twice":
		return code(w.Lie(lieOf(n, 1, 2)))
	case "look":
		return s.look(n[0])
	case "account":
		return s.account(n[0], n[1])
	case "way":
		return []string{named("way", w.Way())}
	}
	return s.show(n[0], n[1:])
}

// txOf is the transaction that a line tells by its numbers, and the node to which it goes.
func txOf(verb string, n []int) (node int, t api.Tx) {
	t = api.Tx{From: n[0], Nonce: n[1], Price: n[2], Limit: n[3]}
	switch verb {
	case "pay":
		t.Kind, t.To, t.Amount = api.Pay, n[4], n[5]
	case "bond":
		t.Kind, t.Amount = api.Bond, n[4]
	case "leave":
		t.Kind, t.Amount = api.Leave, n[4]
	case "free":
		t.Kind = api.Free
	}
	return n[len(n)-1], t
}

// lieOf is a message of votes of who says it, in one place, for these blocks.
func lieOf(n []int, blocks ...int) api.Message {
	m := api.Message{From: n[0], To: n[1], Height: n[2]}
	for _, b := range blocks {
		v := api.Vote{Height: n[2], Round: n[3], Stage: n[4], From: n[0]}
		if b != none {
			v.Has, v.Block = true, api.Digest(b)
		}
		m.Votes = append(m.Votes, v)
	}
	return m
}
