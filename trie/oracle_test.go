package trie_test

import (
	"maps"
	"math/rand"
	"slices"
	"strings"
	"testing"

	"assize/api"
	"assize/digest"
	"assize/trie"
)

// five and eight: chapter 1's, told anew.
func eight(d api.Digest) string {
	b := make([]byte, 8)
	for i := range 8 {
		b[i] = byte(d >> (56 - 8*i))
	}
	return string(b)
}

func five(n int) string { return eight(api.Digest(n))[3:] }

// bitsOf: T2's bits of a key as a text of digits, long enough for all places of two keys that may be.
func bitsOf(key string) string {
	var b strings.Builder
	for i := range len(key) {
		b.WriteByte('1')
		for k := 7; k >= 0; k-- {
			b.WriteByte('0' + key[i]>>k&1)
		}
	}
	for b.Len() < 9*(api.MaxKey+2) {
		b.WriteByte('0')
	}
	return b.String()
}

// plain: a tree as T2 tells it, of a map.
type plain struct {
	node        api.Node
	over        api.Digest
	left, right *plain
}

func image(tag int, parts ...string) api.Image { return api.Image{Tag: tag, Parts: parts} }

func plainTree(w int, keys []string, m map[string]string) *plain {
	if len(keys) == 0 {
		return nil
	}
	if len(keys) == 1 {
		k := keys[0]
		return &plain{
			node: api.Node{Kind: api.Leaf, Key: k, Value: m[k]},
			over: digest.OfImage(w, image(api.TagEntry, k, m[k])),
		}
	}
	all := make([]string, len(keys))
	for i, k := range keys {
		all[i] = bitsOf(k)
	}
	place := 0
	for !slices.ContainsFunc(all, func(s string) bool { return s[place] != all[0][place] }) {
		place++
	}
	var zeros, ones []string
	for i, k := range keys {
		if all[i][place] == '0' {
			zeros = append(zeros, k)
		} else {
			ones = append(ones, k)
		}
	}
	l, r := plainTree(w, zeros, m), plainTree(w, ones, m)
	return &plain{
		node: api.Node{Kind: api.Fork, Pos: place, Left: l.over, Right: r.over},
		over: digest.OfImage(w, image(api.TagFork, five(place), eight(l.over), eight(r.over))),
		left: l, right: r,
	}
}

func plainOf(w int, m map[string]string) *plain {
	return plainTree(w, slices.Sorted(maps.Keys(m)), m)
}

func (p *plain) root(w int) api.Digest {
	if p == nil {
		return digest.OfImage(w, image(api.TagTree))
	}
	return digest.OfImage(w, image(api.TagTree, eight(p.over)))
}

// ways: all nodes, by the ways that lead to them.
func (p *plain) ways(way string, into map[string]api.Node) {
	if p == nil {
		return
	}
	into[way] = p.node
	p.left.ways(way+"0", into)
	p.right.ways(way+"1", into)
}

func (p *plain) prove(key string) api.Proof {
	var out api.Proof
	if p == nil {
		return out
	}
	b := bitsOf(key)
	for p.node.Kind == api.Fork {
		if b[p.node.Pos] == '0' {
			out.Turns = append(out.Turns, api.Turn{Pos: p.node.Pos, Side: p.right.over})
			p = p.left
		} else {
			out.Turns = append(out.Turns, api.Turn{Pos: p.node.Pos, Side: p.left.over})
			p = p.right
		}
	}
	out.Leaf, out.Key, out.Value = true, p.node.Key, p.node.Value
	return out
}

func plainItems(m map[string]string, prefix string, most int) []api.Item {
	var l []api.Item
	for _, k := range slices.Sorted(maps.Keys(m)) {
		if strings.HasPrefix(k, prefix) {
			l = append(l, api.Item{Key: k, Value: m[k]})
		}
	}
	if most >= 0 && most < len(l) {
		l = l[:most]
	}
	return l
}

// plainImages: T6's images of a proof, the root's first.
func plainImages(w int, p api.Proof) []api.Image {
	if !p.Leaf {
		return []api.Image{image(api.TagTree)}
	}
	b := bitsOf(p.Key)
	l := []api.Image{image(api.TagEntry, p.Key, p.Value)}
	for i := len(p.Turns) - 1; i >= 0; i-- {
		x, y := digest.OfImage(w, l[0]), p.Turns[i].Side
		if b[p.Turns[i].Pos] == '1' {
			x, y = y, x
		}
		l = slices.Insert(l, 0, image(api.TagFork, five(p.Turns[i].Pos), eight(x), eight(y)))
	}
	return slices.Insert(l, 0, image(api.TagTree, eight(digest.OfImage(w, l[0]))))
}

// draw: keys that often begin alike, or are one another's beginnings.
func draw(r *rand.Rand) string {
	n := r.Intn(5)
	if r.Intn(8) == 0 {
		n = api.MaxKey - r.Intn(3)
	}
	b := make([]byte, n)
	for i := range b {
		b[i] = "\x00\x01ab\x7f\x80\xff"[r.Intn(7)]
	}
	if r.Intn(4) == 0 {
		return strings.Repeat("k", api.MaxKey-n%3) // so that the longest keys meet
	}
	return string(b)
}

func must(t *testing.T, tr trie.Tree, key, value string) trie.Tree {
	t.Helper()
	x, e := tr.Put(key, value)
	if e != api.OK {
		t.Fatalf("Put(%q, %.20q): %d", key, value, e)
	}
	return x
}

func treeOf(t *testing.T, w int, items ...string) trie.Tree {
	t.Helper()
	tr := trie.New(w)
	for i := 0; i < len(items); i += 2 {
		tr = must(t, tr, items[i], items[i+1])
	}
	return tr
}
