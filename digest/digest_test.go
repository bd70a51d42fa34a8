package digest_test

import (
	"fmt"
	"math"
	"math/rand"
	"reflect"
	"slices"
	"strings"
	"testing"

	"assize/api"
	"assize/digest"
)

// eight and five: chapter 1's, told anew.
func eight(d api.Digest) string {
	b := make([]byte, 8)
	for i := range 8 {
		b[i] = byte(d >> (56 - 8*i))
	}
	return string(b)
}

func five(n int) string { return eight(api.Digest(n))[3:] }

// plain: D1, told anew.
func plain(w, tag int, parts ...string) api.Digest {
	const m = uint64(0x9E3779B97F4A7C15)
	all := []byte{byte(tag)}
	for _, s := range parts {
		all = append(all, eight(api.Digest(len(s)))+s...)
	}
	h := m
	for _, b := range all {
		x := (h ^ uint64(b)) * m
		h = x ^ (x >> 32)
	}
	h = (h ^ (h >> 29)) * m
	h = (h ^ (h >> 29)) * m
	h = h ^ (h >> 32)
	switch {
	case w < 1:
		w = 1
	case w > 8:
		w = 8
	}
	return api.Digest(h >> (64 - 8*w))
}

func half(n int) int {
	k := 1
	for k*2 < n {
		k *= 2
	}
	return k
}

// plainAbove: D2, told anew.
func plainAbove(w int, l []string) api.Digest {
	if len(l) == 0 {
		return 0
	}
	if len(l) == 1 {
		return plain(w, api.TagLeaf, l[0])
	}
	k := half(len(l))
	return plain(w, api.TagNode, eight(plainAbove(w, l[:k])), eight(plainAbove(w, l[k:])))
}

func plainRoot(w int, l []string) api.Digest {
	return plain(w, api.TagList, five(len(l)), eight(plainAbove(w, l)))
}

// plainSides: D3, told anew.
func plainSides(w int, l []string, at int) []api.Digest {
	if len(l) < 2 {
		return nil
	}
	k := half(len(l))
	if at < k {
		return append([]api.Digest{plainAbove(w, l[k:])}, plainSides(w, l[:k], at)...)
	}
	return append([]api.Digest{plainAbove(w, l[:k])}, plainSides(w, l[k:], at-k)...)
}

// sidesAt: how many sides a path has.
func sidesAt(n, at int) int {
	if n < 2 {
		return 0
	}
	if k := half(n); at < k {
		return 1 + sidesAt(k, at)
	} else {
		return 1 + sidesAt(n-k, at-k)
	}
}

// plainUp: of a leaf and a path, as D4 works it out, the images from the whole list down, without the root's, and the digest above.
func plainUp(w int, s string, n, at int, sides []api.Digest) ([]api.Image, api.Digest) {
	if n == 1 {
		return []api.Image{{Tag: api.TagLeaf, Parts: []string{s}}}, plain(w, api.TagLeaf, s)
	}
	k := half(n)
	var below []api.Image
	var x, y api.Digest
	if at < k {
		below, x = plainUp(w, s, k, at, sides[1:])
		y = sides[0]
	} else {
		below, y = plainUp(w, s, n-k, at-k, sides[1:])
		x = sides[0]
	}
	i := api.Image{Tag: api.TagNode, Parts: []string{eight(x), eight(y)}}
	return append([]api.Image{i}, below...), plain(w, i.Tag, i.Parts...)
}

func plainWay(w int, s string, p api.Path) ([]api.Image, api.Digest) {
	l, above := plainUp(w, s, p.Count, p.At, p.Sides)
	i := api.Image{Tag: api.TagList, Parts: []string{five(p.Count), eight(above)}}
	return append([]api.Image{i}, l...), plain(w, i.Tag, i.Parts...)
}

func leaves(n int) []string {
	var l []string
	for i := range n {
		l = append(l, fmt.Sprint("leaf ", i%5, strings.Repeat("x", i%3)))
	}
	return l
}

// The document's example 2.
func TestExamples(t *testing.T) {
	for _, x := range []struct{ got, want api.Digest }{
		{digest.Of(8, 0), 0x2d8f4658d3be2762},
		{digest.Of(2, 3, "k", "v"), 0x2344},
		{digest.Root(8, []string{"a", "b", "c"}), 0xc5bb7b1da36830bf},
		{digest.Root(8, nil), 0x93e38ec2b418b3af},
		{digest.Root(8, []string{}), 0x93e38ec2b418b3af},
	} {
		if x.got != x.want {
			t.Errorf("%x, wanted %x", uint64(x.got), uint64(x.want))
		}
	}
	l := []string{"a", "b", "c"}
	p, e := digest.PathOf(8, l, 2)
	two := digest.Of(8, api.TagNode, eight(digest.Of(8, api.TagLeaf, "a")), eight(digest.Of(8, api.TagLeaf, "b")))
	if e != api.OK || !reflect.DeepEqual(p, api.Path{Count: 3, At: 2, Sides: []api.Digest{two}}) {
		t.Errorf("the path of the third of three: %v, %d", p, e)
	}
}

// D1.
func TestOf(t *testing.T) {
	all := [][]string{
		nil, {""}, {"", ""}, {"a"}, {"a", ""}, {"", "a"}, {"ab"}, {"a", "b"}, {"\x00"}, {"\xff\x80", "k"},
		{strings.Repeat("long ", 100)}, leaves(20),
	}
	widths := []int{1, 2, 3, 4, 5, 6, 7, 8, 0, -1, 9, 100, math.MinInt, math.MaxInt}
	tags := []int{0, 1, 7, 255, 256, 259, -1, math.MinInt, math.MaxInt}
	for _, w := range widths {
		for _, tag := range tags {
			for _, parts := range all {
				was := slices.Clone(parts)
				want := plain(w, tag, parts...)
				if got := digest.Of(w, tag, parts...); got != want {
					t.Errorf("Of(%d, %d, %q): %x, wanted %x", w, tag, parts, uint64(got), uint64(want))
				}
				if got := digest.OfImage(w, api.Image{Tag: tag, Parts: parts}); got != want {
					t.Errorf("OfImage(%d, {%d %q}): %x, wanted %x", w, tag, parts, uint64(got), uint64(want))
				}
				if !slices.Equal(was, parts) {
					t.Errorf("the parts %q became %q", was, parts)
				}
			}
		}
	}
}

// D1: a digest of w bytes is the head of the longer one.
func TestWidths(t *testing.T) {
	for w := 1; w <= 8; w++ {
		if got, whole := digest.Of(w, 5, "part"), digest.Of(8, 5, "part"); got != whole>>(64-8*w) {
			t.Errorf("width %d: %x of %x", w, uint64(got), uint64(whole))
		}
	}
	if digest.Of(0, 5, "part") != digest.Of(1, 5, "part") || digest.Of(9, 5, "part") != digest.Of(8, 5, "part") {
		t.Error("widths below 1 and above 8")
	}
}

// D2.
func TestRoot(t *testing.T) {
	for n := range 70 {
		for _, w := range []int{-3, 1, 2, 5, 8, 11} {
			l := leaves(n)
			if got, want := digest.Root(w, l), plainRoot(w, l); got != want {
				t.Errorf("Root(%d, %d leaves): %x, wanted %x", w, n, uint64(got), uint64(want))
			}
			if !slices.Equal(l, leaves(n)) {
				t.Error("Root changed its list")
			}
		}
	}
}

// D3.
func TestPathOf(t *testing.T) {
	for n := range 40 {
		l := leaves(n)
		for _, w := range []int{0, 1, 3, 8} {
			for at := range n {
				want := api.Path{Count: n, At: at, Sides: plainSides(w, l, at)}
				p, e := digest.PathOf(w, l, at)
				if e != api.OK || fmt.Sprint(p) != fmt.Sprint(want) {
					t.Errorf("PathOf(%d, %d leaves, %d): %v, %d; wanted %v", w, n, at, p, e, want)
				}
			}
			for _, at := range []int{-1, n, n + 1, math.MinInt, math.MaxInt} {
				p, e := digest.PathOf(w, l, at)
				if e != api.ErrPlace || p.Count != 0 || p.At != 0 || len(p.Sides) != 0 {
					t.Errorf("PathOf(%d, %d leaves, %d): %v, %d", w, n, at, p, e)
				}
			}
		}
		if !slices.Equal(l, leaves(n)) {
			t.Error("PathOf changed its list")
		}
	}
}

// P2: a path is the caller's.
func TestPathsAreFresh(t *testing.T) {
	l := leaves(9)
	p, _ := digest.PathOf(8, l, 3)
	want := fmt.Sprint(p)
	q, _ := digest.PathOf(8, l, 3)
	for i := range p.Sides {
		p.Sides[i]++
	}
	if again, _ := digest.PathOf(8, l, 3); fmt.Sprint(q) != want || fmt.Sprint(again) != want {
		t.Error("two paths share their sides")
	}
}

// D4: what PathOf gives holds, and nothing that was changed in it.
func TestHolds(t *testing.T) {
	for n := 1; n < 24; n++ {
		l := leaves(n)
		for at := range n {
			root := digest.Root(8, l)
			p, _ := digest.PathOf(8, l, at)
			holds := func(root api.Digest, s string, p api.Path, want bool) {
				t.Helper()
				was := fmt.Sprint(p)
				if digest.Holds(8, root, s, p) != want {
					t.Errorf("%d leaves, %q, %v: Holds is not %t", n, s, p, want)
				}
				if was != fmt.Sprint(p) {
					t.Error("Holds changed a path")
				}
			}
			holds(root, l[at], p, true)
			holds(root^1, l[at], p, false)
			holds(root^1<<63, l[at], p, false)
			holds(root, l[at]+"x", p, false)
			holds(root, "", p, false)
			for _, other := range []int{n - 1 - at, at + 1, at - 1, n, -1, math.MinInt, math.MaxInt} {
				if other != at {
					holds(root, l[at], api.Path{Count: n, At: other, Sides: p.Sides}, false)
				}
			}
			for _, count := range []int{n + 1, n - 1, 2 * n, 0, -1, -n, api.MaxNumber + 1, math.MinInt, math.MaxInt} {
				holds(root, l[at], api.Path{Count: count, At: at, Sides: p.Sides}, false)
			}
			holds(root, l[at], api.Path{Count: n, At: at, Sides: append(slices.Clone(p.Sides), 0)}, false)
			holds(root, l[at], api.Path{Count: n, At: at, Sides: append([]api.Digest{0}, p.Sides...)}, false)
			for i := range p.Sides {
				holds(root, l[at], api.Path{Count: n, At: at, Sides: slices.Delete(slices.Clone(p.Sides), i, i+1)}, false)
				changed := slices.Clone(p.Sides)
				changed[i] ^= 1 << (i % 64)
				holds(root, l[at], api.Path{Count: n, At: at, Sides: changed}, false)
			}
		}
	}
}

// D4: made-up paths, of any width and count, hold where the root is worked out of them; sides may be wider than w.
func TestHoldsOfMadeUpPaths(t *testing.T) {
	r := rand.New(rand.NewSource(4))
	for i := range 600 {
		n := 1 + r.Intn(1<<(i%40))
		switch i % 50 {
		case 0:
			n = api.MaxNumber
		case 1:
			n = 1 << 39
		}
		for _, at := range []int{0, n - 1, r.Intn(n)} {
			p := api.Path{Count: n, At: at, Sides: make([]api.Digest, sidesAt(n, at))}
			for i := range p.Sides {
				p.Sides[i] = api.Digest(r.Uint64())
			}
			w := r.Intn(10)
			_, root := plainWay(w, "leaf", p)
			if !digest.Holds(w, root, "leaf", p) {
				t.Errorf("%d %v does not hold", w, p)
			}
			if digest.Holds(w, root+1, "leaf", p) {
				t.Errorf("%d %v holds under another root", w, p)
			}
			p.Sides = append(p.Sides, 1)
			if digest.Holds(w, root, "leaf", p) {
				t.Errorf("%d %v holds, with a side too many", w, p)
			}
		}
	}
}

// D4: a count, and a place, are asked for even where the root would be worked out of them.
func TestHoldsAsksCountAndPlace(t *testing.T) {
	big := api.Path{Count: api.MaxNumber + 1, At: 0, Sides: make([]api.Digest, 40)}
	_, root := plainWay(8, "leaf", big)
	if digest.Holds(8, root, "leaf", big) {
		t.Error("a count above MaxNumber holds")
	}
	root = plain(8, api.TagList, five(0), eight(plain(8, api.TagLeaf, "leaf")))
	if digest.Holds(8, root, "leaf", api.Path{}) {
		t.Error("a count of 0 holds")
	}
	root = plainRoot(8, []string{"leaf"})
	for _, at := range []int{-1, 1, math.MinInt, math.MaxInt} {
		if digest.Holds(8, root, "leaf", api.Path{Count: 1, At: at}) {
			t.Errorf("the place %d of one holds", at)
		}
	}
	root = plain(8, api.TagList, five(-1), eight(plain(8, api.TagLeaf, "leaf")))
	if digest.Holds(8, root, "leaf", api.Path{Count: -1, At: -2}) {
		t.Error("a count below 0 holds")
	}
	if digest.Holds(8, digest.Root(8, nil), "", api.Path{}) {
		t.Error("an empty list has a leaf")
	}
}

func shown(l ...api.Image) string {
	s := ""
	for _, i := range l {
		s += fmt.Sprintf("%d %q;", i.Tag, i.Parts)
	}
	return s
}

// clashes: D5, told anew.
func clashes(w int, root api.Digest, s string, p api.Path, u string, q api.Path) (a, b api.Image, found bool) {
	if s == u || p.At != q.At || !digest.Holds(w, root, s, p) || !digest.Holds(w, root, u, q) {
		return
	}
	l, _ := plainWay(w, s, p)
	m, _ := plainWay(w, u, q)
	for i := range l {
		if !reflect.DeepEqual(l[i], m[i]) {
			return l[i], m[i], true
		}
	}
	return
}

// mustClash wants of Clash what D5 says, and tells the tag of the images (-1: none).
func mustClash(t *testing.T, w int, root api.Digest, s string, p api.Path, u string, q api.Path) int {
	t.Helper()
	was := fmt.Sprint(p, q)
	a, b, found := digest.Clash(w, root, s, p, u, q)
	x, y, want := clashes(w, root, s, p, u, q)
	if found != want || shown(a, b) != shown(x, y) {
		t.Errorf("Clash(%d, %x, %q, %v, %q, %v): %s, %t; wanted %s, %t", w, uint64(root), s, p, u, q, shown(a, b), found, shown(x, y), want)
	}
	if was != fmt.Sprint(p, q) {
		t.Error("Clash changed a path")
	}
	if !found {
		return -1
	}
	if shown(a) == shown(b) || digest.OfImage(w, a) != digest.OfImage(w, b) {
		t.Errorf("%s are no clash", shown(a, b))
	}
	return a.Tag
}

// D5: unlike leaves under one root, with digests of one byte.
func TestClash(t *testing.T) {
	r := rand.New(rand.NewSource(5))
	seen := map[int]int{}
	for range 3000 {
		n := 1 + r.Intn(9)
		l := leaves(n)
		at := r.Intn(n)
		root := digest.Root(1, l)
		p, _ := digest.PathOf(1, l, at)
		q := api.Path{Count: p.Count, At: at, Sides: slices.Clone(p.Sides)}
		if r.Intn(3) == 0 {
			q.Count = at + 1 + r.Intn(9)
			q.Sides = make([]api.Digest, sidesAt(q.Count, at))
		}
		for i := range q.Sides {
			if i >= len(p.Sides) || r.Intn(3) == 0 {
				q.Sides[i] = api.Digest(r.Intn(256))
			}
		}
		for k := range 400 {
			if u := fmt.Sprint(k); digest.Holds(1, root, u, q) {
				seen[mustClash(t, 1, root, l[at], p, u, q)]++
				seen[mustClash(t, 1, root, u, q, l[at], p)]++
				if mustClash(t, 1, root^1, u, q, l[at], p) >= 0 || mustClash(t, 8, root, u, q, l[at], p) >= 0 {
					t.Error("a clash, though nothing holds")
				}
				break
			}
		}
	}
	for _, tag := range []int{api.TagLeaf, api.TagNode, api.TagList} {
		if seen[tag] < 20 {
			t.Errorf("only %d clashes of the tag %d", seen[tag], tag)
		}
	}
}

// D5: where there is none.
func TestNoClash(t *testing.T) {
	l := []string{"a", "b", "a", "d", "e"}
	root := digest.Root(8, l)
	for i := range l {
		for k := range l {
			p, _ := digest.PathOf(8, l, i)
			q, _ := digest.PathOf(8, l, k)
			for _, s := range l {
				for _, u := range l {
					if mustClash(t, 8, root, s, p, u, q) >= 0 {
						t.Errorf("%q at %d and %q at %d clash", s, i, u, k)
					}
				}
			}
		}
	}
	if mustClash(t, 8, root, "a", api.Path{}, "b", api.Path{}) >= 0 {
		t.Error("paths of nothing clash")
	}
	// at unlike places leaves may be unlike, though every digest is one byte
	root = digest.Root(1, l)
	p, _ := digest.PathOf(1, l, 0)
	q, _ := digest.PathOf(1, l, 1)
	if _, _, found := digest.Clash(1, root, "a", p, "b", q); found {
		t.Error("unlike places clash")
	}
}

// P2: the images of a clash are the caller's.
func TestImagesAreFresh(t *testing.T) {
	l := []string{"a", "b"}
	root := digest.Root(1, l)
	p, _ := digest.PathOf(1, l, 0)
	for k := range 5000 {
		u := fmt.Sprint(k)
		a, b, found := digest.Clash(1, root, "a", p, u, p)
		if !found {
			continue
		}
		want := shown(b)
		for i := range a.Parts {
			a.Parts[i] = "changed"
		}
		c, d, _ := digest.Clash(1, root, "a", p, u, p)
		if shown(b) != want || shown(d) != want || c.Parts[0] == "changed" {
			t.Error("images share their parts")
		}
		return
	}
	t.Error("no clash was found")
}
