package trie

import (
	"math/bits"

	"assize/api"
	"assize/wire"
)

// bitsPerByte: a 1, by which a longer key parts from its own beginning, and the eight of the byte.
const bitsPerByte = 9

// behindAll is greater than each place at which two keys part.
const behindAll = bitsPerByte * api.MaxKey

// bit is that of a key at a place, 0 or 1.
func bit(key string, place int) int {
	i, of := place/bitsPerByte, place%bitsPerByte
	if i >= len(key) {
		return 0
	}
	if of == 0 {
		return 1
	}
	return int(key[i]>>(8-of)) & 1
}

// parting is the place at which two keys part; of one and the same it is behindAll.
func parting(a, b string) int {
	if a == b {
		return behindAll
	}
	i := 0
	for i < len(a) && i < len(b) && a[i] == b[i] {
		i++
	}
	if i == len(a) || i == len(b) {
		return bitsPerByte * i
	}
	return bitsPerByte*i + 1 + bits.LeadingZeros8(a[i]^b[i])
}

// node: a leaf, or a fork, whose sides are both there. It never changes, for many trees may share it; so its digest is worked out once, when it is made.
type node struct {
	digest     api.Digest
	key, value string
	place      int
	sides      [2]*node
}

func (n *node) forks() bool { return n.sides[0] != nil }

func (n *node) side(at int) *node { return n.sides[at] }

func leafOf(w int, key, value string) *node {
	n := &node{key: key, value: value}
	n.digest = Over(w, n.told())
	return n
}

// forkOf is the fork at a place, with x on one side, at, and y on the other one.
func forkOf(w, place, at int, x, y *node) *node {
	n := &node{place: place}
	n.sides[at], n.sides[1-at] = x, y
	n.digest = Over(w, n.told())
	return n
}

// told is the node as those outside are told of it.
func (n *node) told() api.Node {
	if n.forks() {
		return api.Node{Kind: api.Fork, Pos: n.place, Left: n.sides[0].digest, Right: n.sides[1].digest}
	}
	return api.Node{Kind: api.Leaf, Key: n.key, Value: n.value}
}

// each goes through the leaves from the left on, until yield has enough; then it is false.
func (n *node) each(yield func(*node) bool) bool {
	if !n.forks() {
		return yield(n)
	}
	return n.sides[0].each(yield) && n.sides[1].each(yield)
}

func imageOf(n api.Node) api.Image {
	if n.Kind == api.Fork {
		return forkImage(n.Pos, n.Left, n.Right)
	}
	return leafImage(n.Key, n.Value)
}

func leafImage(key, value string) api.Image {
	return api.Image{Tag: api.TagEntry, Parts: []string{key, value}}
}

func forkImage(place int, left, right api.Digest) api.Image {
	return api.Image{Tag: api.TagFork, Parts: []string{wire.Five(place), wire.Eight(left), wire.Eight(right)}}
}

func bareImage() api.Image { return api.Image{Tag: api.TagTree} }

func treeImage(top api.Digest) api.Image {
	return api.Image{Tag: api.TagTree, Parts: []string{wire.Eight(top)}}
}
