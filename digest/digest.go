// Package digest: digests of bytes, and of lists: see the document's chapter.
package digest

import (
	"math/bits"
	"slices"

	"assize/api"
	"assize/wire"
)

// factor: M of the chapter.
const factor = 0x9E3779B97F4A7C15

// Of is the digest, of w bytes, of parts under a tag.
func Of(w, tag int, parts ...string) api.Digest {
	h := stir(factor, byte(tag))
	for _, s := range parts {
		h = stirAll(h, wire.Eight(api.Digest(len(s))))
		h = stirAll(h, s)
	}
	for range 2 {
		h = (h ^ h>>29) * factor
	}
	h ^= h >> 32
	return api.Digest(h >> (64 - 8*widthOf(w)))
}

func widthOf(w int) int { return min(max(w, 1), 8) }

func stir(h uint64, b byte) uint64 {
	x := (h ^ uint64(b)) * factor
	return x ^ x>>32
}

func stirAll(h uint64, s string) uint64 {
	for i := range len(s) {
		h = stir(h, s[i])
	}
	return h
}

// OfImage is the digest of an image.
func OfImage(w int, i api.Image) api.Digest { return Of(w, i.Tag, i.Parts...) }

func leafImage(s string) api.Image {
	return api.Image{Tag: api.TagLeaf, Parts: []string{s}}
}

func nodeImage(x, y api.Digest) api.Image {
	return api.Image{Tag: api.TagNode, Parts: []string{wire.Eight(x), wire.Eight(y)}}
}

func listImage(n int, above api.Digest) api.Image {
	return api.Image{Tag: api.TagList, Parts: []string{wire.Five(n), wire.Eight(above)}}
}

// firstPart: how many of n leaves, two or more, stand in the first part: the greatest power of two below n.
func firstPart(n int) int { return 1 << (bits.Len(uint(n-1)) - 1) }

// above is the digest above a list.
func above(w int, l []string) api.Digest {
	switch len(l) {
	case 0:
		return 0
	case 1:
		return OfImage(w, leafImage(l[0]))
	}
	k := firstPart(len(l))
	return OfImage(w, nodeImage(above(w, l[:k]), above(w, l[k:])))
}

// Root is the digest of a list.
func Root(w int, l []string) api.Digest {
	return OfImage(w, listImage(len(l), above(w, l)))
}

// PathOf is the path of the leaf at of a list.
func PathOf(w int, l []string, at int) (api.Path, api.Errno) {
	if at < 0 || at >= len(l) {
		return api.Path{}, api.ErrPlace
	}
	p := api.Path{Count: len(l), At: at}
	for _, second := range turns(len(l), at) {
		k := firstPart(len(l))
		with, other := l[:k], l[k:]
		if second {
			with, other = other, with
		}
		p.Sides = append(p.Sides, above(w, other))
		l = with
	}
	return p, api.OK
}

// turns: on the way down to the leaf at of a list of n, is it in the second part?
func turns(n, at int) []bool {
	var l []bool
	for n > 1 {
		k := firstPart(n)
		second := at >= k
		if second {
			n, at = n-k, at-k
		} else {
			n = k
		}
		l = append(l, second)
	}
	return l
}

// way lists the images that are worked out of a leaf and a path, from the root down; none, if there is no such path.
func way(w int, s string, p api.Path) []api.Image {
	if p.Count < 1 || p.Count > api.MaxNumber || p.At < 0 || p.At >= p.Count {
		return nil
	}
	down := turns(p.Count, p.At)
	if len(down) != len(p.Sides) {
		return nil
	}
	last := leafImage(s)
	l := []api.Image{last}
	for i := range len(down) {
		deep := len(down) - 1 - i
		x, y := OfImage(w, last), p.Sides[deep]
		if down[deep] {
			x, y = y, x
		}
		last = nodeImage(x, y)
		l = append(l, last)
	}
	l = append(l, listImage(p.Count, OfImage(w, last)))
	slices.Reverse(l)
	return l
}

// leadsTo: is root the digest of a way's first image?
func leadsTo(w int, root api.Digest, l []api.Image) bool {
	return len(l) > 0 && OfImage(w, l[0]) == root
}

// Holds says whether s is the leaf at the path's place of the list that root is the digest of.
func Holds(w int, root api.Digest, s string, p api.Path) bool {
	return leadsTo(w, root, way(w, s, p))
}

// Clash finds, where two unlike leaves are held at one place under one root, two unlike images of one digest.
func Clash(w int, root api.Digest, s string, p api.Path, t string, q api.Path) (a, b api.Image, found bool) {
	if s == t || p.At != q.At {
		return api.Image{}, api.Image{}, false
	}
	one, other := way(w, s, p), way(w, t, q)
	if !leadsTo(w, root, one) || !leadsTo(w, root, other) {
		return api.Image{}, api.Image{}, false
	}
	// Ways of unlike lengths are of unlike counts, and so unlike at their first image.
	for i := range min(len(one), len(other)) {
		if !alike(one[i], other[i]) {
			return one[i], other[i], true
		}
	}
	return api.Image{}, api.Image{}, false
}

func alike(a, b api.Image) bool {
	return a.Tag == b.Tag && slices.Equal(a.Parts, b.Parts)
}
