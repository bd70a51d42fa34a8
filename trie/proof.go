package trie

import (
	"slices"

	"assize/api"
	"assize/digest"
	"assize/wire"
)

// Prove is the proof that a key has its value, or none.
func (t Tree) Prove(key string) (api.Proof, api.Errno) {
	if len(key) > api.MaxKey {
		return api.Proof{}, api.ErrLimit
	}
	if t.top == nil {
		return api.Proof{}, api.OK
	}
	var p api.Proof
	n := t.top
	for n.forks() {
		at := bit(key, n.place)
		p.Turns = append(p.Turns, api.Turn{Pos: n.place, Side: n.side(1 - at).digest})
		n = n.side(at)
	}
	p.Leaf, p.Key, p.Value = true, n.key, n.value
	return p, api.OK
}

// may: is it a proof of the key, whatever it be worth?
func may(key string, p api.Proof) api.Errno {
	if len(key) > api.MaxKey {
		return api.ErrLimit
	}
	if _, e := wire.PutProof(p); e != api.OK {
		return e
	}
	for _, turn := range p.Turns {
		if bit(key, turn.Pos) != bit(p.Key, turn.Pos) {
			return api.ErrForm
		}
	}
	return api.OK
}

// way lists the images that are worked out of a proof that may be, from the root down.
func way(w int, p api.Proof) []api.Image {
	if !p.Leaf {
		return []api.Image{bareImage()}
	}
	last := leafImage(p.Key, p.Value)
	l := []api.Image{last}
	for _, turn := range slices.Backward(p.Turns) {
		left, right := digest.OfImage(w, last), turn.Side
		if bit(p.Key, turn.Pos) == 1 {
			left, right = right, left
		}
		last = forkImage(turn.Pos, left, right)
		l = append(l, last)
	}
	l = append(l, treeImage(digest.OfImage(w, last)))
	slices.Reverse(l)
	return l
}

// shown is the value that a proof shows that a key has, and its way.
func shown(w int, root api.Digest, key string, p api.Proof) (string, []api.Image, api.Errno) {
	if e := may(key, p); e != api.OK {
		return "", nil, e
	}
	l := way(w, p)
	if digest.OfImage(w, l[0]) != root {
		return "", nil, api.ErrRoot
	}
	if p.Key != key {
		return "", l, api.OK
	}
	return p.Value, l, api.OK
}

// Check says what value the proof shows that the key has in the tree of a root; none is "".
func Check(w int, root api.Digest, key string, p api.Proof) (string, api.Errno) {
	value, _, e := shown(w, root, key, p)
	return value, e
}

// Clash finds, where two proofs show unlike values of one key under one root, two unlike images of one digest.
func Clash(w int, root api.Digest, key string, p, q api.Proof) (a, b api.Image, found bool) {
	x, one, e := shown(w, root, key, p)
	y, other, f := shown(w, root, key, q)
	if e != api.OK || f != api.OK || x == y {
		return api.Image{}, api.Image{}, false
	}
	// The end of a way, a leaf or an empty tree, is unlike all that the other has there, unless it ends so too.
	for i := range min(len(one), len(other)) {
		if one[i].Tag != other[i].Tag || !slices.Equal(one[i].Parts, other[i].Parts) {
			return one[i], other[i], true
		}
	}
	return api.Image{}, api.Image{}, false
}
